/- A map of lists of stamps that is keyed by points, and may be written. append of a stamp, of a commit, where the order is drawn. -/
import Derived.Test.YtcknhjabdjbjiabGreatGMLg
namespace Go.Proofs.YtcknhjabdjbjiabGreat
open Go.RowKit
set_option maxRecDepth 100000

theorem MapV.entryU {w : World} {mb : Nat} {E : List (Pt × Value)} (h : MapV w mb E) (x : Pt) :
    ∃ w' i bn, (Instr.mapEntry 47 (.map (some mb)) (PV x)).run Tryz.prog w = .ok (.tuple #[getV E x, .int .i64 (bn : Nat)]) w' ∧ EntM w' mb (putV E x (getV E x)) i bn ∧ (∀ v, (putV E x (getV E x)).set i (x, v) = putV E x v) ∧
      (∃ v, (putV E x (getV E x))[i]? = some (x, v)) ∧ w.grownBy w' (some mb) ∧ w'.heap.size = w.heap.size := by
  obtain ⟨es, c, h1, h2, hbo, hnd⟩ := h.f
  have hlt : mb < w.heap.size := (Array.getElem?_eq_some_iff.1 h1).1
  have hf := findV_run x w es.toList E h2
  unfold putV getV
  cases hx : fndV E x with
  | some p =>
    obtain ⟨i, v0⟩ := p
    rw [hx] at hf
    have hE := fndV_some hx
    have hi : i < E.length := (List.getElem?_eq_some_iff.1 hE).1
    have hl : es.size = E.length := by have := congrArg List.length h2; simpa using this
    have hi2 : i < es.size := by omega
    have hk := congrArg (fun l => l[i]?) h2
    simp only [List.getElem?_map, Array.getElem?_toList, hE, Array.getElem?_eq_getElem hi2, Option.map_some, Option.some.injEq, Prod.mk.injEq] at hk
    have hset : E.set i (x, v0) = E := by
      apply List.ext_getElem?
      intro j
      rw [List.getElem?_set]
      by_cases hj : i = j
      · subst hj; simp [hi, ← hE]
      · simp [hj]
    have hmod : (es.modify i fun e => { e with key := PV x }) = es := by
      apply Array.ext
      · simp
      · intro j h1 h2
        rw [Array.getElem_modify]
        split
        · rename_i hj
          subst hj
          have h5 := hk.1
          generalize es[i] = e0 at h5 ⊢
          cases e0
          simp only at h5
          subst h5
          rfl
        · rfl
    refine ⟨{ w with heap := w.heap.setIfInBounds mb (.map (es.modify i fun e => { e with key := PV x }) c) }, i, (es[i]).born, ?_, ?_, ?_, ?_, ?_, by simp⟩
    · unfold Instr.mapEntry
      simp only [Sem.run_bind, run_underlying Tryz.underlying47, Result.andThen_ok, MapKept.run_getObj_map h1, Sem.run_pure, run_checkP, hf, Instr.keyThatStays, Array.getElem?_eq_getElem hi2, Option.map_some, Option.getD_some, hk.1, bitsP, if_true, MapKept.run_setObj_map _ h1]
      rfl
    · dsimp only
      rw [hset, hmod]
      exact ⟨es, c, by simp [hlt], h2, hbo, hnd, es[i], Array.getElem?_eq_getElem hi2, rfl⟩
    · intro v
      dsimp only
      rw [hset]
    · dsimp only
      rw [hset]
      exact ⟨v0, hE⟩
    · refine ⟨rfl, rfl, rfl, by simp, fun k _ hk => ?_⟩
      have hne : mb ≠ k := fun e => hk (by rw [e])
      simp [hne]
  | none =>
    rw [hx] at hf
    have hl : es.size = E.length := by have := congrArg List.length h2; simpa using this
    refine ⟨{ w with heap := w.heap.setIfInBounds mb (.map (es.push { key := PV x, val := .slice none 0 0, born := c }) (c + 1)) }, E.length, c, ?_, ?_, ?_, ?_, ?_, by simp⟩
    · unfold Instr.mapEntry
      simp only [Sem.run_bind, run_underlying Tryz.underlying47, Result.andThen_ok, MapKept.run_getObj_map h1, run_checkP, hf, zeroUs, MapKept.run_setObj_map _ h1]
      rfl
    · refine ⟨es.push { key := PV x, val := .slice none 0 0, born := c }, c + 1, by simp [hlt], by simp [h2], ?_, ?_, { key := PV x, val := .slice none 0 0, born := c }, ?_, rfl⟩
      · intro e he
        simp only [Array.toList_push, List.mem_append, List.mem_singleton] at he
        rcases he with he | rfl
        · have := hbo e he; omega
        · simp
      · simp only [Array.toList_push, List.map_append, List.map_cons, List.map_nil]
        refine List.nodup_append.2 ⟨hnd, by simp, ?_⟩
        intro a ha b hb
        obtain ⟨e, he, rfl⟩ := List.mem_map.1 ha
        simp only [List.mem_singleton] at hb
        have := hbo e he
        omega
      · rw [← hl]; simp
    · intro v; simp
    · exact ⟨.slice none 0 0, by simp⟩
    · refine ⟨rfl, rfl, rfl, by simp, fun k _ hk => ?_⟩
      have hne : mb ≠ k := fun e => hk (by rw [e])
      simp [hne]
theorem EntM.storeU {w : World} {mb : Nat} {E : List (Pt × Value)} {i bn : Nat} (h : EntM w mb E i bn) (x : Pt) (v v0 : Value) (hE : E[i]? = some (x, v0)) :
    ∃ w', (Instr.entryStore 47 (.map (some mb)) (.int .i64 (bn : Nat)) v).run Tryz.prog w = .ok () w' ∧ MapV w' mb (E.set i (x, v)) ∧ w.grownBy w' (some mb) ∧ w'.heap.size = w.heap.size := by
  obtain ⟨es, c, h1, h2, hbo, hnd, e, he, hb⟩ := h.f
  have hlt : mb < w.heap.size := (Array.getElem?_eq_some_iff.1 h1).1
  have hi2 : i < es.size := (Array.getElem?_eq_some_iff.1 he).1
  have hl : es.size = E.length := by have := congrArg List.length h2; simpa using this
  have hi : i < E.length := by omega
  have hk := congrArg (fun l => l[i]?) h2
  simp only [List.getElem?_map, Array.getElem?_toList, hE, he, Option.map_some, Option.some.injEq, Prod.mk.injEq] at hk
  have hfi : es.findIdx? (fun e => (e.born : Int) == (bn : Int)) = some i := by
    rw [Array.findIdx?_eq_some_iff_getElem]
    have hei : es[i] = e := (Array.getElem?_eq_some_iff.1 he).2
    refine ⟨hi2, by rw [hei, hb]; simp, fun j hj => ?_⟩
    intro hc0
    have hc : (es[j]'(by omega)).born = bn := by have h := beq_iff_eq.1 hc0; omega
    have hj2 : j < es.toList.length := by simp; omega
    have h5 : (es.toList.map (·.born))[j]? = (es.toList.map (·.born))[i]? := by
      simp only [List.getElem?_map, Array.getElem?_toList, Array.getElem?_eq_getElem (show j < es.size by omega), he, Option.map_some, hc, hb]
    have := (List.getElem?_inj (by simpa using hj2) hnd).1 h5
    omega
  have hborn : (es.modify i fun e => { e with val := v }).toList.map (·.born) = es.toList.map (·.born) := by
    apply List.ext_getElem?
    intro j
    simp only [List.getElem?_map, Array.getElem?_toList, Array.getElem?_modify]
    split
    · rename_i hj
      subst hj
      rw [Array.getElem?_eq_getElem hi2]
      rfl
    · rfl
  refine ⟨{ w with heap := w.heap.setIfInBounds mb (.map (es.modify i fun e => { e with val := v }) c) }, ?_, ⟨es.modify i fun e => { e with val := v }, c, by simp [hlt], ?_, ?_, by rw [hborn]; exact hnd⟩, ?_, by simp⟩
  · unfold Instr.entryStore
    simp only [Sem.run_bind, Result.andThen_ok, MapKept.run_getObj_map h1, asInt, asIntOf, Sem.run_pure, hfi, MapKept.run_setObj_map _ h1]
  · apply List.ext_getElem?
    intro j
    have hj2 := congrArg (fun l => l[j]?) h2
    simp only [List.getElem?_map, Array.getElem?_toList] at hj2
    simp only [List.getElem?_map, Array.getElem?_toList, Array.getElem?_modify, List.getElem?_set]
    by_cases hj : i = j
    · subst hj
      simp [hi, he, hk.1]
    · simp only [hj, if_false]
      exact hj2
  · intro e he
    have h5 : e.born ∈ es.toList.map (·.born) := by rw [← hborn]; exact List.mem_map.2 ⟨e, he, rfl⟩
    obtain ⟨e0, h6, h7⟩ := List.mem_map.1 h5
    rw [← h7]
    exact hbo e0 h6
  · refine ⟨rfl, rfl, rfl, by simp, fun k _ hk => ?_⟩
    have hne : mb ≠ k := fun e => hk (by rw [e])
    simp [hne]


def ucells (L : List Nat) : List Value := L.map (fun n => .int .u64 (n : Nat))
/-- stamps in a row of one's own -/
def OwnU (w : World) (B : Nat) (v : Value) (L : List Nat) : Prop := w.ownsRow B 23 1 v L.length (ucells L)
theorem OwnU.nil (w : World) (B : Nat) : OwnU w B (.slice none 0 0) [] := World.ownsRow_nil w B _ _
theorem OwnU.blk {w : World} {B : Nat} {v : Value} {L : List Nat} (h : OwnU w B v L) {g : Nat} (hg : v.ownBlock = some g) : B ≤ g ∧ ∃ cur, w.heap[g]? = some (.cells cur 23 (0, 0)) := by
  rcases (show w.ownsRow B 23 1 v L.length (ucells L) from h).2 with ⟨rfl, _⟩ | ⟨g', cap, cur, rfl, hB, hgb, _⟩
  · cases hg
  · cases hg
    exact ⟨hB, cur, hgb⟩
theorem OwnU.lt {w : World} {B : Nat} {v : Value} {L : List Nat} (h : OwnU w B v L) {g : Nat} (hg : v.ownBlock = some g) : g < w.heap.size := by
  obtain ⟨_, cur, h1⟩ := h.blk hg
  exact (Array.getElem?_eq_some_iff.1 h1).1
theorem OwnU.by {w w' : World} {B : Nat} {v : Value} {L : List Nat} (h : OwnU w B v L) (hb : ∀ g, v.ownBlock = some g → w'.heap[g]? = w.heap[g]?) : OwnU w' B v L := by
  refine ⟨h.1, ?_⟩
  rcases h.2 with hn | ⟨g, cap, cur, rfl, h1, hgg, rest⟩
  · exact .inl hn
  · exact .inr ⟨g, cap, cur, rfl, h1, (hb g rfl).trans hgg, rest⟩
theorem OwnU.on {w w' : World} {B : Nat} {v : Value} {L : List Nat} (h : OwnU w B v L) (hb : Below w.heap.size w w') : OwnU w' B v L := h.by (fun g hg => hb.block g (h.lt hg))
theorem OwnU.not_map {w : World} {B mb : Nat} {v : Value} {L : List Nat} (h : OwnU w B v L) {E : List (Pt × Value)} (hm : MapV w mb E) : v.ownBlock ≠ some mb := fun hg => by
  obtain ⟨_, cur, h1⟩ := h.blk hg
  obtain ⟨es, c, h2, _⟩ := hm.f
  rw [h1] at h2
  cases h2
theorem OwnU.sl {w : World} {B : Nat} {v : Value} {L : List Nat} (h : OwnU w B v L) : SlU w v L := by
  rcases (show w.ownsRow B 23 1 v L.length (ucells L) from h).2 with ⟨rfl, h0⟩ | ⟨g, cap, cur, rfl, hB, hgb, hc, _, hsz, htk⟩
  · have : L = [] := List.eq_nil_of_length_eq_zero h0
    subst this
    exact ⟨none, 0, rfl, Nat.le_refl _, fun _ => rfl, fun i hi => absurd hi (by simp)⟩
  · refine ⟨some ⟨g, 0, none⟩, cap, rfl, hc, (fun h => by cases h), fun i hi => ⟨g, 0, rfl, (Array.getElem?_eq_some_iff.1 hgb).1, ?_⟩⟩
    have h1 : cur[i]? = some (.int .u64 (L[i] : Nat)) := by
      have h2 : (cur.toList.take (L.length * 1))[i]? = (ucells L)[i]? := by rw [htk]
      rw [List.getElem?_take_of_lt (by omega)] at h2
      rw [Array.getElem?_toList] at h2
      rw [h2]
      unfold ucells
      rw [List.getElem?_map, List.getElem?_eq_getElem hi]
      rfl
    rw [Nat.zero_add]
    exact (show Blk w g cur 23 from hgb).cell h1

/-- block mb is a map of lists of stamps, each in a row of its own: f tells them -/
structure StM (w : World) (B mb : Nat) (f : Pt → List Nat) (E : List (Pt × Value × List Nat)) : Prop where
  map : MapV w mb (E.map (fun e => (e.1, e.2.1)))
  own : ∀ e ∈ E, OwnU w B e.2.1 e.2.2
  apart : ∀ (i j : Nat) (a b : Pt × Value × List Nat), E[i]? = some a → E[j]? = some b → i ≠ j → ∀ g, a.2.1.ownBlock = some g → b.2.1.ownBlock ≠ some g
  nodup : (E.map (·.1)).Nodup
  val : ∀ e ∈ E, e.2.2 = f e.1
  all : ∀ x, f x ≠ [] → x ∈ E.map (·.1)
theorem StM.on {w w' : World} {B mb : Nat} {f : Pt → List Nat} {E : List (Pt × Value × List Nat)} (h : StM w B mb f E) (hb : Below w.heap.size w w') : StM w' B mb f E :=
  ⟨h.map.on hb, fun e he => (h.own e he).on hb, h.apart, h.nodup, h.val, h.all⟩
theorem StM.made (w : World) (B : Nat) : StM (w.alloc (.map #[] 0)) B w.heap.size (fun _ => []) [] := ⟨MapV.made w, by simp, by simp, by simp, by simp, by simp⟩
def kvU (e : Pt × Value × List Nat) : Pt × Value := (e.1, e.2.1)
theorem StM.lack {w : World} {B mb : Nat} {f : Pt → List Nat} {E : List (Pt × Value × List Nat)} (h : StM w B mb f E) {p : Pt} (hp : p ∉ E.map (·.1)) : f p = [] := Classical.byContradiction fun hn => hp (h.all p hn)
theorem StM.get {w : World} {B mb : Nat} {f : Pt → List Nat} {E : List (Pt × Value × List Nat)} (h : StM w B mb f E) (p : Pt) : OwnU w B (getV (E.map kvU) p) (f p) := by
  unfold getV
  cases hx : fndV (E.map kvU) p with
  | none =>
    have hn := fndV_none hx
    rw [List.map_map] at hn
    rw [h.lack hn]
    exact OwnU.nil w B
  | some q =>
    obtain ⟨i, v⟩ := q
    have h1 := fndV_some hx
    rw [List.getElem?_map] at h1
    cases he : E[i]? with
    | none => rw [he] at h1; cases h1
    | some e =>
      rw [he] at h1
      have hm : e ∈ E := List.mem_of_getElem? he
      have e1 : e.1 = p := congrArg Prod.fst (Option.some.inj h1)
      have e2 : e.2.1 = v := congrArg Prod.snd (Option.some.inj h1)
      show OwnU w B v _
      rw [← e2, ← e1, ← h.val e hm]
      exact h.own e hm
def addF (f : Pt → List Nat) (p : Pt) (s : Nat) : Pt → List Nat := fun y => if y = p then f p ++ [s] else f y
theorem StM.put {w w2 : World} {B mb : Nat} {f : Pt → List Nat} {E : List (Pt × Value × List Nat)} (h : StM w B mb f E) (p : Pt) (s : Nat) (v' : Value) (hm2 : MapV w2 mb (putV (E.map kvU) p v')) (ho2 : OwnU w2 B v' (f p ++ [s]))
    (hfr : ∀ k, k < w.heap.size → k ≠ mb → some k ≠ (getV (E.map kvU) p).ownBlock → w2.heap[k]? = w.heap[k]?) (hw : v'.ownBlock = (getV (E.map kvU) p).ownBlock ∨ ∃ g, v'.ownBlock = some g ∧ w.heap.size ≤ g) :
    ∃ E', StM w2 B mb (addF f p s) E' ∧ E'.length ≤ E.length + 1 := by
  have hv0 := h.get p
  unfold putV at hm2
  cases hx : fndV (E.map kvU) p with
  | none =>
    rw [hx] at hm2
    have hgv : (getV (E.map kvU) p).ownBlock = none := by unfold getV; rw [hx]; rfl
    rw [hgv] at hfr hw
    have hn := fndV_none hx
    rw [List.map_map] at hn
    have hr0 := h.lack hn
    rw [hr0] at ho2
    refine ⟨E ++ [(p, v', [s])], ⟨by rw [List.map_append]; exact hm2, ?_, ?_, ?_, ?_, ?_⟩, by simp⟩
    · intro e he
      rcases List.mem_append.1 he with he | he
      · refine (h.own e he).by (fun g hg3 => hfr g (OwnU.lt (h.own e he) hg3) ?_ (by simp))
        rintro rfl
        exact OwnU.not_map (h.own e he) h.map hg3
      · rw [List.mem_singleton] at he
        subst he
        exact ho2
    · have hnew : ∀ g, v'.ownBlock = some g → w.heap.size ≤ g := fun g hg3 => by
        rcases hw with hw | ⟨g0, hw, hle⟩
        · rw [hw] at hg3; cases hg3
        · rw [hw] at hg3; cases hg3; exact hle
      intro i j a b hi hj hij g hga hgb
      rw [List.getElem?_append] at hi hj
      by_cases hi1 : i < E.length
      · rw [if_pos hi1] at hi
        by_cases hj1 : j < E.length
        · rw [if_pos hj1] at hj
          exact h.apart i j a b hi hj hij g hga hgb
        · rw [if_neg hj1] at hj
          have hjE : j - E.length = 0 := by
            have := (List.getElem?_eq_some_iff.1 hj).1; simp at this; omega
          rw [hjE] at hj
          cases hj
          have h5 := hnew g hgb
          have h6 := OwnU.lt (h.own a (List.mem_of_getElem? hi)) hga
          omega
      · rw [if_neg hi1] at hi
        have hiE : i - E.length = 0 := by
          have := (List.getElem?_eq_some_iff.1 hi).1; simp at this; omega
        rw [hiE] at hi
        cases hi
        by_cases hj1 : j < E.length
        · rw [if_pos hj1] at hj
          have h5 := hnew g hga
          have h6 := OwnU.lt (h.own b (List.mem_of_getElem? hj)) hgb
          omega
        · rw [if_neg hj1] at hj
          have hjE : j - E.length = 0 := by
            have := (List.getElem?_eq_some_iff.1 hj).1; simp at this; omega
          omega
    · rw [List.map_append]
      refine List.nodup_append.2 ⟨h.nodup, by simp, ?_⟩
      intro a ha b hb e
      simp only [List.map_cons, List.map_nil, List.mem_singleton] at hb
      subst e
      subst hb
      exact hn ha
    · intro e he
      rcases List.mem_append.1 he with he | he
      · have hne : ¬ e.1 = p := fun e1 => hn (by rw [← e1]; exact List.mem_map.2 ⟨e, he, rfl⟩)
        unfold addF
        rw [if_neg hne]
        exact h.val e he
      · rw [List.mem_singleton] at he
        subst he
        unfold addF
        rw [if_pos rfl, hr0]
        rfl
    · intro x hx9
      rw [List.map_append]
      by_cases hxp : x = p
      · subst hxp; simp
      · unfold addF at hx9
        rw [if_neg hxp] at hx9
        exact List.mem_append_left _ (h.all x hx9)
  | some q =>
    obtain ⟨i, v⟩ := q
    rw [hx] at hm2
    have hgv : getV (E.map kvU) p = v := by unfold getV; rw [hx]
    rw [hgv] at hfr hw hv0
    have h1 := fndV_some hx
    rw [List.getElem?_map] at h1
    cases he : E[i]? with
    | none => rw [he] at h1; cases h1
    | some e0 =>
      rw [he] at h1
      have e1 : e0.1 = p := congrArg Prod.fst (Option.some.inj h1)
      have e2 : e0.2.1 = v := congrArg Prod.snd (Option.some.inj h1)
      have hi : i < E.length := (List.getElem?_eq_some_iff.1 he).1
      have hkeys : (E.set i (p, v', f p ++ [s])).map (·.1) = E.map (·.1) := by
        apply List.ext_getElem?
        intro j
        simp only [List.getElem?_map, List.getElem?_set]
        by_cases hj : i = j
        · subst hj
          have hE0 : E[i] = e0 := (List.getElem?_eq_some_iff.1 he).2
          simp [hi, hE0, e1]
        · simp [hj]
      have hother : ∀ {j : Nat} {b : Pt × Value × List Nat}, (E.set i (p, v', f p ++ [s]))[j]? = some b → (j = i ∧ b = (p, v', f p ++ [s])) ∨ (j ≠ i ∧ E[j]? = some b) := fun {j b} hb => by
        rw [List.getElem?_set] at hb
        by_cases hj : i = j
        · subst hj
          simp only [if_true, hi] at hb
          exact .inl ⟨rfl, (Option.some.inj hb).symm⟩
        · simp only [hj, if_false] at hb
          exact .inr ⟨fun e => hj e.symm, hb⟩
      have hold : ∀ {j : Nat} {b : Pt × Value × List Nat}, j ≠ i → E[j]? = some b → ∀ g, b.2.1.ownBlock = some g → v.ownBlock ≠ some g := fun {j b} hji hb g hg3 hv3 =>
        h.apart j i b e0 hb he hji g hg3 (by rw [e2]; exact hv3)
      have hnew : ∀ {j : Nat} {b : Pt × Value × List Nat}, j ≠ i → E[j]? = some b → ∀ g, b.2.1.ownBlock = some g → v'.ownBlock ≠ some g := fun {j b} hji hb g hg3 hv3 => by
        rcases hw with hw | ⟨g0, hw, hle⟩
        · rw [hw] at hv3
          exact hold hji hb g hg3 hv3
        · rw [hw] at hv3
          have h6 := OwnU.lt (h.own b (List.mem_of_getElem? hb)) hg3
          have := Option.some.inj hv3
          omega
      refine ⟨E.set i (p, v', f p ++ [s]), ⟨?_, ?_, ?_, by rw [hkeys]; exact h.nodup, ?_, ?_⟩, by simp⟩
      · have : (E.set i (p, v', f p ++ [s])).map (fun e => (e.1, e.2.1)) = (E.map kvU).set i (p, v') := by
          rw [List.map_set]
          rfl
        rw [this]
        exact hm2
      · intro e hem
        obtain ⟨j, hj⟩ := List.getElem?_of_mem hem
        rcases hother hj with ⟨rfl, rfl⟩ | ⟨hji, hb⟩
        · exact ho2
        · refine (h.own e (List.mem_of_getElem? hb)).by (fun g hg3 => hfr g (OwnU.lt (h.own e (List.mem_of_getElem? hb)) hg3) ?_ (fun e3 => hold hji hb g hg3 e3.symm))
          rintro rfl
          exact OwnU.not_map (h.own e (List.mem_of_getElem? hb)) h.map hg3
      · intro j k a b ha hb hjk g hga hgb
        rcases hother ha with ⟨rfl, rfl⟩ | ⟨hji, ha'⟩
        · rcases hother hb with ⟨rfl, rfl⟩ | ⟨hki, hb'⟩
          · exact hjk rfl
          · exact hnew hki hb' g hgb hga
        · rcases hother hb with ⟨rfl, rfl⟩ | ⟨hki, hb'⟩
          · exact hnew hji ha' g hga hgb
          · exact h.apart j k a b ha' hb' hjk g hga hgb
      · intro e hem
        obtain ⟨j, hj⟩ := List.getElem?_of_mem hem
        rcases hother hj with ⟨rfl, rfl⟩ | ⟨hji, hb⟩
        · unfold addF
          rw [if_pos rfl]
        · have hne : ¬ e.1 = p := fun e5 => by
            have h7 : (E.map (·.1))[j]? = (E.map (·.1))[i]? := by simp only [List.getElem?_map, hb, he, Option.map_some]; rw [e1, e5]
            have hjl : j < (E.map (·.1)).length := by have := (List.getElem?_eq_some_iff.1 hb).1; simpa using this
            exact hji ((List.getElem?_inj hjl h.nodup).1 h7)
          unfold addF
          rw [if_neg hne]
          exact h.val e (List.mem_of_getElem? hb)
      · intro x hx9
        rw [hkeys]
        by_cases hxp : x = p
        · rw [hxp, ← e1]
          exact List.mem_map.2 ⟨e0, List.mem_of_getElem? he, rfl⟩
        · unfold addF at hx9
          rw [if_neg hxp] at hx9
          exact h.all x hx9

end Go.Proofs.YtcknhjabdjbjiabGreat

namespace Go.Proofs.YtcknhjabdjbjiabGreat
open Go.RowKit
set_option maxRecDepth 100000

theorem info_U : (Tryz.prog.info? 23).map (fun i => (i.zero, i.size, i.bytes)) = some (some (.int .u64 0), 1, 8) := by kernel_rfl
theorem info_C : (Tryz.prog.info? 75).map (fun i => (i.zero, i.size, i.bytes)) = some (some (.agg #[.int .u64 0, .slice none 0 0, .slice none 0 0, .slice none 0 0]), 4, 80) := by kernel_rfl
theorem ucells_append (L M : List Nat) : ucells (L ++ M) = ucells L ++ ucells M := by unfold ucells; exact List.map_append
theorem wp_appU {o : Oper} {a : Act} {K : Act → World → Prop} {Q : Exit → Act → World → Prop} (w : World) (s x : Operand)
    (ho : o.op = .call { callee := .builtin .append, args := #[s, x], argTypes := #[54, 54] })
    (B : Nat) (v : Value) (L : List Nat) (hs : a.eval s = v) (hown : OwnU w B v L)
    (u : Nat) (g : Nat) (hx : a.eval x = .slice (some ⟨g, 0, none⟩) 1 1) (hC : Blk w g #[.int .u64 (u : Nat)] 23)
    (hlen : L.length + 1 ≤ 17592186044416) (hbase : B ≤ w.heap.size)
    (h : ∀ v' w', OwnU w' B v' (L ++ [u]) → w.grownBy w' v.ownBlock → (v'.ownBlock = v.ownBlock ∨ v'.ownBlock = some w.heap.size) → K (a.put o.dst v') w') : Oper.wp Tryz.prog o a w K Q := by
  obtain ⟨i, hi, hz0, hz1, hz2⟩ := info_parts info_U
  obtain ⟨v', w', hr, h2, h3, h4, h5⟩ := run_append_own_at (P := Tryz.prog) w B 54 o.type 23 i (.int .u64 0) 1 8 Tryz.underlying54 hi hz0 hz1 hz2 rfl (by decide) v L.length (ucells L) hown ⟨g, 0, none⟩ 1 1 (ucells [u]) rfl (by
    intro j y hj
    have hj' : j = 0 := by
      have := (List.getElem?_eq_some_iff.1 hj).1
      simpa [ucells] using this
    subst hj'
    simp [ucells] at hj
    subst hj
    have e : (⟨g, 0, none⟩ : Addr).add 0 = ⟨g, 0, none⟩ := by unfold Addr.add; split <;> simp_all
    rw [e]
    exact hC.cell rfl) (by
    intro y hy
    simp [ucells] at hy
    subst hy
    rfl) (by unfold maxLen; omega) (by omega) hbase
  unfold Oper.wp execOp
  simp only [ho, resolve, invoke, builtin, Sem.run_bind, Sem.run_pure, Result.andThen_ok, List.map_toArray, List.map_cons, List.map_nil, hs, hx, hr]
  refine h v' w' ?_ h3 h5
  unfold OwnU
  rw [ucells_append, List.length_append]
  exact h2

def ccells (L : List Cm) : List Value := L.flatMap (fun c => [.int .u64 (c.s : Nat), c.v0, c.v1, c.v2])
/-- commits in a row of one's own -/
def OwnC (w : World) (B : Nat) (v : Value) (L : List Cm) : Prop := w.ownsRow B 75 4 v L.length (ccells L)
theorem OwnC.nil (w : World) (B : Nat) : OwnC w B (.slice none 0 0) [] := World.ownsRow_nil w B _ _
theorem OwnC.blk {w : World} {B : Nat} {v : Value} {L : List Cm} (h : OwnC w B v L) {g : Nat} (hg : v.ownBlock = some g) : B ≤ g ∧ ∃ cur, w.heap[g]? = some (.cells cur 75 (0, 0)) := by
  rcases (show w.ownsRow B 75 4 v L.length (ccells L) from h).2 with ⟨rfl, _⟩ | ⟨g', cap, cur, rfl, hB, hgb, _⟩
  · cases hg
  · cases hg
    exact ⟨hB, cur, hgb⟩
theorem OwnC.lt {w : World} {B : Nat} {v : Value} {L : List Cm} (h : OwnC w B v L) {g : Nat} (hg : v.ownBlock = some g) : g < w.heap.size := by
  obtain ⟨_, cur, h1⟩ := h.blk hg
  exact (Array.getElem?_eq_some_iff.1 h1).1
theorem OwnC.by {w w' : World} {B : Nat} {v : Value} {L : List Cm} (h : OwnC w B v L) (hb : ∀ g, v.ownBlock = some g → w'.heap[g]? = w.heap[g]?) : OwnC w' B v L := by
  refine ⟨h.1, ?_⟩
  rcases h.2 with hn | ⟨g, cap, cur, rfl, h1, hgg, rest⟩
  · exact .inl hn
  · exact .inr ⟨g, cap, cur, rfl, h1, (hb g rfl).trans hgg, rest⟩
theorem OwnC.on {w w' : World} {B : Nat} {v : Value} {L : List Cm} (h : OwnC w B v L) (hb : Below w.heap.size w w') : OwnC w' B v L := h.by (fun g hg => hb.block g (h.lt hg))
theorem ccells_at {L : List Cm} : ∀ {i : Nat} (hi : i < L.length), (ccells L)[i * 4]? = some (.int .u64 (L[i].s : Nat)) ∧ (ccells L)[i * 4 + 1]? = some L[i].v0 ∧ (ccells L)[i * 4 + 2]? = some L[i].v1 ∧ (ccells L)[i * 4 + 3]? = some L[i].v2 := by
  induction L with
  | nil => intro i hi; simp at hi
  | cons c L ih =>
    intro i hi
    cases i with
    | zero => exact ⟨rfl, rfl, rfl, rfl⟩
    | succ i =>
      have e : (i + 1) * 4 = i * 4 + 1 + 1 + 1 + 1 := by omega
      have hc : ccells (c :: L) = .int .u64 (c.s : Nat) :: c.v0 :: c.v1 :: c.v2 :: ccells L := rfl
      rw [e, hc]
      simp only [List.getElem?_cons_succ, List.getElem_cons_succ]
      exact ih (by simpa using hi)
theorem OwnC.row {w : World} {B : Nat} {v : Value} {L : List Cm} (h : OwnC w B v L) : ∃ p c, v = .slice p L.length c ∧ L.length ≤ c ∧ (p = none → c = 0) ∧ RowC w p L := by
  rcases (show w.ownsRow B 75 4 v L.length (ccells L) from h).2 with ⟨rfl, h0⟩ | ⟨g, cap, cur, rfl, hB, hgb, hc, _, hsz, htk⟩
  · have : L = [] := List.eq_nil_of_length_eq_zero h0
    subst this
    exact ⟨none, 0, rfl, Nat.le_refl _, fun _ => rfl, fun i hi => absurd hi (by simp)⟩
  · refine ⟨some ⟨g, 0, none⟩, cap, rfl, hc, (fun h => by cases h), fun i hi => ⟨g, 0, rfl, (Array.getElem?_eq_some_iff.1 hgb).1, ?_⟩⟩
    obtain ⟨k0, k1, k2, k3⟩ := ccells_at hi
    have hk : ∀ (j : Nat) (y : Value), j < L.length * 4 → (ccells L)[j]? = some y → w.cell? ⟨g, 0 + j, none⟩ = some y := fun j y hj hy => by
      rw [← htk, List.getElem?_take_of_lt hj, Array.getElem?_toList] at hy
      rw [Nat.zero_add]
      exact (show Blk w g cur 75 from hgb).cell hy
    exact ⟨hk _ _ (by omega) k0, hk _ _ (by omega) k1, hk _ _ (by omega) k2, hk _ _ (by omega) k3⟩
theorem ccells_append (L M : List Cm) : ccells (L ++ M) = ccells L ++ ccells M := by unfold ccells; exact List.flatMap_append
theorem wp_appC {o : Oper} {a : Act} {K : Act → World → Prop} {Q : Exit → Act → World → Prop} (w : World) (s x : Operand)
    (ho : o.op = .call { callee := .builtin .append, args := #[s, x], argTypes := #[46, 46] })
    (B : Nat) (v : Value) (L : List Cm) (hs : a.eval s = v) (hown : OwnC w B v L)
    (u : Cm) (hu : u.v0.oneCell' = true ∧ u.v1.oneCell' = true ∧ u.v2.oneCell' = true) (g : Nat) (hx : a.eval x = .slice (some ⟨g, 0, none⟩) 1 1) (hC : Blk w g #[.int .u64 (u.s : Nat), u.v0, u.v1, u.v2] 75)
    (hlen : L.length + 1 ≤ 1759218604441) (hbase : B ≤ w.heap.size)
    (h : ∀ v' w', OwnC w' B v' (L ++ [u]) → w.grownBy w' v.ownBlock → (v'.ownBlock = v.ownBlock ∨ v'.ownBlock = some w.heap.size) → K (a.put o.dst v') w') : Oper.wp Tryz.prog o a w K Q := by
  obtain ⟨i, hi, hz0, hz1, hz2⟩ := info_parts info_C
  obtain ⟨v', w', hr, h2, h3, h4, h5⟩ := run_append_own_at (P := Tryz.prog) w B 46 o.type 75 i (.agg #[.int .u64 0, .slice none 0 0, .slice none 0 0, .slice none 0 0]) 4 80 Tryz.underlying46 hi hz0 hz1 hz2 rfl (by decide) v L.length (ccells L) hown ⟨g, 0, none⟩ 1 1 (ccells [u]) rfl (by
    intro j y hj
    have hj' : j < 4 := by
      have := (List.getElem?_eq_some_iff.1 hj).1
      simpa [ccells] using this
    have e : (⟨g, 0, none⟩ : Addr).add j = ⟨g, j, none⟩ := by unfold Addr.add; split <;> simp_all
    rw [e]
    have h4 : j = 0 ∨ j = 1 ∨ j = 2 ∨ j = 3 := by omega
    rcases h4 with rfl | rfl | rfl | rfl <;> (simp [ccells] at hj; subst hj; exact hC.cell rfl)) (by
    intro y hy
    simp [ccells] at hy
    rcases hy with rfl | rfl | rfl | rfl
    · rfl
    · exact hu.1
    · exact hu.2.1
    · exact hu.2.2) (by unfold maxLen; omega) (by omega) hbase
  unfold Oper.wp execOp
  simp only [ho, resolve, invoke, builtin, Sem.run_bind, Sem.run_pure, Result.andThen_ok, List.map_toArray, List.map_cons, List.map_nil, hs, hx, hr]
  refine h v' w' ?_ h3 h5
  unfold OwnC
  rw [ccells_append, List.length_append]
  exact h2

end Go.Proofs.YtcknhjabdjbjiabGreat
