/- Things of any number of cells in slices: read; in rows of one's own; such rows, one for each key. -/
import Derived.Maps.AppendAt
import Derived.Test.YtncfejndmlcidaaGreatGMPtr
namespace Go.Proofs.YtncfejndmlcidaaGreat
open Go.RowKit
set_option maxRecDepth 100000

section
variable {α : Type}
theorem flat_at {size : Nat} {enc : α → List Value} (hf : ∀ x, (enc x).length = size) (L : List α) (i : Nat) (hi : i < L.length) (t : Nat) (ht : t < size) : (L.flatMap enc)[i * size + t]? = (enc L[i])[t]? := by
  induction L generalizing i with
  | nil => simp at hi
  | cons v L ih =>
    have hl : (enc v).length = size := hf v
    simp only [List.flatMap_cons]
    cases i with
    | zero => rw [Nat.zero_mul, Nat.zero_add, List.getElem?_append_left (by omega)]; rfl
    | succ i =>
      have e0 : (i + 1) * size = i * size + size := Nat.succ_mul i size
      rw [List.getElem?_append_right (by omega)]
      have e : (i + 1) * size + t - (enc v).length = i * size + t := by omega
      rw [e]
      exact ih i (by simpa using hi)
theorem flat_len {size : Nat} {enc : α → List Value} (hf : ∀ x, (enc x).length = size) (L : List α) : (L.flatMap enc).length = L.length * size := by
  induction L with
  | nil => simp
  | cons v L ih => rw [List.flatMap_cons, List.length_append, hf v, ih, List.length_cons, Nat.succ_mul]; omega

/-- a slice of things of 'size' cells, in a block below B, that is read -/
structure SlG (enc : α → List Value) (size B : Nat) (w : World) (v : Value) (L : List α) : Prop where
  f : ∃ p c, v = .slice p L.length c ∧ L.length ≤ c ∧ (p = none → c = 0) ∧ ∀ i (hi : i < L.length), ∃ b o, p = some ⟨b, o, none⟩ ∧ b < B ∧ ∀ t u, (enc L[i])[t]? = some u → w.cell? ⟨b, o + i * size + t, none⟩ = some u
theorem SlG.on {enc : α → List Value} {size B : Nat} {w w' : World} {v : Value} {L : List α} (h : SlG enc size B w v L) (hb : Below B w w') : SlG enc size B w' v L := by
  obtain ⟨p, c, rfl, h1, h2, h3⟩ := h.f
  refine ⟨p, c, rfl, h1, h2, fun i hi => ?_⟩
  obtain ⟨b, o, e, hlt, hc⟩ := h3 i hi
  exact ⟨b, o, e, hlt, fun t u hu => by rw [hb.cell (p := ⟨b, _, none⟩) hlt]; exact hc t u hu⟩
theorem SlG.mono {enc : α → List Value} {size B C : Nat} {w : World} {v : Value} {L : List α} (h : SlG enc size B w v L) (hb : B ≤ C) : SlG enc size C w v L := by
  obtain ⟨p, c, rfl, h1, h2, h3⟩ := h.f
  refine ⟨p, c, rfl, h1, h2, fun i hi => ?_⟩
  obtain ⟨b, o, e, hlt, hc⟩ := h3 i hi
  exact ⟨b, o, e, by omega, hc⟩
theorem SlG.nil (enc : α → List Value) (size B : Nat) (w : World) : SlG enc size B w (.slice none 0 0) [] := ⟨none, 0, rfl, Nat.le_refl _, fun _ => rfl, fun i hi => absurd hi (by simp)⟩

/-- things in a row of one's own -/
def OwnG (enc : α → List Value) (size : Nat) (T : TypeId) (w : World) (B : Nat) (v : Value) (L : List α) : Prop := w.ownsRow B T size v L.length (L.flatMap enc)
section
variable {enc : α → List Value} {size : Nat} {T : TypeId} {w w' : World} {B : Nat} {v : Value} {L : List α}
theorem OwnG.nil (enc : α → List Value) (size : Nat) (T : TypeId) (w : World) (B : Nat) : OwnG enc size T w B (.slice none 0 0) [] := World.ownsRow_nil w B _ _
theorem OwnG.blk (h : OwnG enc size T w B v L) {g : Nat} (hg : v.ownBlock = some g) : B ≤ g ∧ ∃ cur, w.heap[g]? = some (.cells cur T (0, 0)) := by
  rcases (show w.ownsRow B T size v L.length (L.flatMap enc) from h).2 with ⟨rfl, _⟩ | ⟨g', cap, cur, rfl, hB, hgb, _⟩
  · cases hg
  · cases hg
    exact ⟨hB, cur, hgb⟩
theorem OwnG.lt (h : OwnG enc size T w B v L) {g : Nat} (hg : v.ownBlock = some g) : g < w.heap.size := by
  obtain ⟨_, cur, h1⟩ := h.blk hg
  exact (Array.getElem?_eq_some_iff.1 h1).1
theorem OwnG.byG (h : OwnG enc size T w B v L) (hb : ∀ g, v.ownBlock = some g → w'.heap[g]? = w.heap[g]?) : OwnG enc size T w' B v L := by
  refine ⟨h.1, ?_⟩
  rcases h.2 with hn | ⟨g, cap, cur, rfl, h1, hgg, rest⟩
  · exact .inl hn
  · exact .inr ⟨g, cap, cur, rfl, h1, (hb g rfl).trans hgg, rest⟩
theorem OwnG.on (h : OwnG enc size T w B v L) (hb : Below w.heap.size w w') : OwnG enc size T w' B v L := h.byG (fun _ hg => hb.block _ (h.lt hg))
theorem OwnG.mono {C : Nat} (h : OwnG enc size T w B v L) (hb : C ≤ B) : OwnG enc size T w C v L := by
  refine ⟨h.1, ?_⟩
  rcases h.2 with h1 | ⟨g, cap, cur, e, hb', r⟩
  · exact .inl h1
  · exact .inr ⟨g, cap, cur, e, Nat.le_trans hb hb', r⟩
/-- a row of another type stays where one is written -/
theorem OwnG.ne {β : Type} {enc' : β → List Value} {size' B' : Nat} {T' : TypeId} {v' : Value} {L' : List β} (h : OwnG enc size T w B v L) (h' : OwnG enc' size' T' w B' v' L') (hT : T ≠ T') : ∀ g, v.ownBlock = some g → v'.ownBlock ≠ some g := fun g hg hg' => by
  obtain ⟨_, cur, h1⟩ := h.blk hg
  obtain ⟨_, cur', h2⟩ := h'.blk hg'
  rw [h1] at h2
  cases h2
  exact hT rfl
theorem OwnG.form (h : OwnG enc size T w B v L) : (v = .slice none 0 0 ∧ L = []) ∨ ∃ g cap cur, v = .slice (some ⟨g, 0, none⟩) L.length cap ∧ B ≤ g ∧ w.heap[g]? = some (.cells cur T (0, 0)) ∧ L.length ≤ cap ∧ cap ≤ maxLen ∧ cur.size = cap * size ∧ cur.toList.take (L.length * size) = L.flatMap enc := by
  rcases (show w.ownsRow B T size v L.length (L.flatMap enc) from h).2 with ⟨h1, h2⟩ | ⟨g, cap, cur, e, hb, hg, h3, h4, h5, h6⟩
  · exact .inl ⟨h1, List.eq_nil_of_length_eq_zero h2⟩
  · exact .inr ⟨g, cap, cur, e, hb, hg, h3, h4, h5, h6⟩
theorem OwnG.sl (hf : ∀ x, (enc x).length = size) (h : OwnG enc size T w B v L) : SlG enc size w.heap.size w v L := by
  have h0 : w.ownsRow B T size v L.length (L.flatMap enc) := h
  rcases h.form with ⟨rfl, rfl⟩ | ⟨g, cap, cur, rfl, hb, hg, h3, h4, h5, h6⟩
  · exact SlG.nil _ _ _ _
  · refine ⟨some ⟨g, 0, none⟩, cap, rfl, h3, (fun h => by cases h), fun i hi => ⟨g, 0, rfl, (Array.getElem?_eq_some_iff.1 hg).1, fun t u hu => ?_⟩⟩
    have ht : t < size := by
      have := (List.getElem?_eq_some_iff.1 hu).1
      rw [hf] at this
      exact this
    have hlt : i * size + t < L.length * size := by
      have h7 : (i + 1) * size ≤ L.length * size := Nat.mul_le_mul_right _ hi
      rw [Nat.succ_mul] at h7
      omega
    rw [Nat.zero_add]
    have h1 := h0.cellAt (i * size + t) hlt
    rw [h1, flat_at hf L i hi t ht, hu]
end

/-- rows of one's own, one for each key -/
structure Fam {K : Type} (enc : α → List Value) (size : Nat) (T : TypeId) (w : World) (B : Nat) (vs : K → Value) (Ls : K → List α) : Prop where
  own : ∀ k, OwnG enc size T w B (vs k) (Ls k)
  apart : ∀ k k', k ≠ k' → ∀ g, (vs k).ownBlock = some g → (vs k').ownBlock ≠ some g
def updF {K β : Type} [DecidableEq K] (f : K → β) (k : K) (v : β) : K → β := fun j => if j = k then v else f j
theorem updF_same {K β : Type} [DecidableEq K] (f : K → β) (k : K) (v : β) : updF f k v k = v := if_pos rfl
theorem updF_other {K β : Type} [DecidableEq K] (f : K → β) {k j : K} (v : β) (h : j ≠ k) : updF f k v j = f j := if_neg h
section
variable {K : Type} {enc : α → List Value} {size : Nat} {T : TypeId} {w w' : World} {B : Nat} {vs : K → Value} {Ls : K → List α}
theorem Fam.nil (w : World) (B : Nat) : Fam (K := K) enc size T w B (fun _ => .slice none 0 0) (fun _ => []) := ⟨fun _ => OwnG.nil _ _ _ _ _, fun _ _ _ g hg => by cases hg⟩
theorem Fam.byG (h : Fam enc size T w B vs Ls) (hb : ∀ (g : Nat) (cur : Array Value), w.heap[g]? = some (Obj.cells cur T (0, 0)) → w'.heap[g]? = w.heap[g]?) : Fam enc size T w' B vs Ls :=
  ⟨fun k => (h.own k).byG (fun g hg => by obtain ⟨_, cur, h1⟩ := (h.own k).blk hg; exact hb g cur h1), h.apart⟩
theorem Fam.on (h : Fam enc size T w B vs Ls) (hb : Below w.heap.size w w') : Fam enc size T w' B vs Ls := ⟨fun k => (h.own k).on hb, h.apart⟩
/-- all but a block that is none of these is as it was -/
theorem Fam.frm {F : Nat → Prop} (h : Fam enc size T w B vs Ls) (hf : Frm w w' F) (hn : ∀ (g : Nat) (cur : Array Value), w.heap[g]? = some (Obj.cells cur T (0, 0)) → ¬ F g) : Fam enc size T w' B vs Ls :=
  h.byG (fun g cur hg => hf.block g (Array.getElem?_eq_some_iff.1 hg).1 (hn g cur hg))
theorem Fam.put [DecidableEq K] (h : Fam enc size T w B vs Ls) (k : K) {v' : Value} {L' : List α} (ho : OwnG enc size T w' B v' L') (hg : ∀ g, g < w.heap.size → (vs k).ownBlock ≠ some g → (∃ cur, w.heap[g]? = some (Obj.cells cur T (0, 0))) → w'.heap[g]? = w.heap[g]?)
    (hat : v'.ownBlock = (vs k).ownBlock ∨ v'.ownBlock = none ∨ ∃ g, v'.ownBlock = some g ∧ w.heap.size ≤ g) : Fam enc size T w' B (updF vs k v') (updF Ls k L') := by
  have hne : ∀ j, j ≠ k → ∀ g, (vs j).ownBlock = some g → v'.ownBlock ≠ some g := fun j hj g hgj hv => by
    rcases hat with h1 | h1 | ⟨g', h1, h2⟩
    · rw [h1] at hv
      exact h.apart j k hj g hgj hv
    · rw [h1] at hv; cases hv
    · rw [h1] at hv
      cases hv
      have := (h.own j).lt hgj
      omega
  refine ⟨fun j => ?_, fun j j' hjj g hgj hgj' => ?_⟩
  · by_cases hj : j = k
    · subst hj
      rw [updF_same, updF_same]
      exact ho
    · rw [updF_other _ _ hj, updF_other _ _ hj]
      exact (h.own j).byG (fun g hgj => hg g ((h.own j).lt hgj) (fun e => h.apart j k hj g hgj e) (by obtain ⟨_, cur, h1⟩ := (h.own j).blk hgj; exact ⟨cur, h1⟩))
  · by_cases hj : j = k
    · subst hj
      have hj' : j' ≠ j := Ne.symm hjj
      rw [updF_same] at hgj
      rw [updF_other _ _ hj'] at hgj'
      exact hne j' hj' g hgj' hgj
    · rw [updF_other _ _ hj] at hgj
      by_cases hj' : j' = k
      · subst hj'
        rw [updF_same] at hgj'
        exact hne j hj g hgj hgj'
      · rw [updF_other _ _ hj'] at hgj'
        exact h.apart j j' hjj g hgj hgj'
end

/-- 'append(l, x)', the row of one's own -/
theorem wpList_appG {ops : Array Oper} {rest : List Oper} {o : Oper} {a : Act} {Q : Exit → Act → World → Prop} (w : World) (hgd : o.guard = none) (s x : Operand) (T S : TypeId) (z : Value) {enc : α → List Value} {size : Nat} (bytes : Nat)
    (ho : o.op = .call { callee := .builtin .append, args := #[s, x], argTypes := #[S, S] }) (hu : Tryz.prog.underlying S = some (.slice T))
    (hinfo : (Tryz.prog.info? T).map (fun i => (i.zero, i.size, i.bytes)) = some (some z, size, bytes)) (hzs : z.cells.size = size) (hsz : 0 < size) (hf : ∀ x, (enc x).length = size)
    (B : Nat) (v : Value) (L : List α) (y : α) (hone : ∀ u ∈ enc y, u.oneCell' = true) (hs : a.eval s = v) (hown : OwnG enc size T w B v L)
    (g : Nat) (hx : a.eval x = .slice (some ⟨g, 0, none⟩) 1 1) (hc : ∀ t u, (enc y)[t]? = some u → w.cell? ⟨g, t, none⟩ = some u)
    (hlen : (L.length + 1) * bytes ≤ 140737488355328) (hlen2 : L.length + 1 ≤ 140737488355328) (hbase : B ≤ w.heap.size)
    (h : ∀ v' w', OwnG enc size T w' B v' (L ++ [y]) → w.grownBy w' v.ownBlock → (v'.ownBlock = v.ownBlock ∨ v'.ownBlock = some w.heap.size) → wpList Tryz.prog ops Q rest (a.put o.dst v') w') : wpList Tryz.prog ops Q (o :: rest) a w := by
  obtain ⟨i, hi, hz0, hz1, hz2⟩ : ∃ i, Tryz.prog.info? T = some i ∧ i.zero = some z ∧ i.size = size ∧ i.bytes = bytes := by
    cases hi : Tryz.prog.info? T with
    | none => rw [hi] at hinfo; cases hinfo
    | some i =>
      rw [hi] at hinfo
      simp only [Option.map_some, Option.some.injEq, Prod.mk.injEq] at hinfo
      exact ⟨i, rfl, hinfo.1, hinfo.2.1, hinfo.2.2⟩
  refine wpList_append_own_at w hgd s x S ho B T i z size bytes hu hi hz0 hz1 hz2 hzs hsz v L.length (L.flatMap enc) hs hown ⟨g, 0, none⟩ 1 1 (enc y) hx (by rw [hf, Nat.one_mul]) ?_ hone (by unfold maxLen; omega) hlen hbase ?_
  · intro j u hj
    have e : (⟨g, 0, none⟩ : Addr).add j = ⟨g, j, none⟩ := by unfold Addr.add; split <;> simp_all
    rw [e]
    exact hc j u hj
  · intro v' w' h1 h2 _ h3
    refine h v' w' ?_ h2 h3
    unfold OwnG
    rw [List.flatMap_append, List.length_append, List.flatMap_cons, List.flatMap_nil, List.append_nil]
    exact h1
/-- the same where the order is drawn -/
theorem wp_appG {o : Oper} {a : Act} {K : Act → World → Prop} {Q : Exit → Act → World → Prop} (w : World) (s x : Operand) (T S : TypeId) (z : Value) {enc : α → List Value} {size : Nat} (bytes : Nat)
    (ho : o.op = .call { callee := .builtin .append, args := #[s, x], argTypes := #[S, S] }) (hu : Tryz.prog.underlying S = some (.slice T))
    (hinfo : (Tryz.prog.info? T).map (fun i => (i.zero, i.size, i.bytes)) = some (some z, size, bytes)) (hzs : z.cells.size = size) (hsz : 0 < size) (hf : ∀ x, (enc x).length = size)
    (B : Nat) (v : Value) (L : List α) (y : α) (hone : ∀ u ∈ enc y, u.oneCell' = true) (hs : a.eval s = v) (hown : OwnG enc size T w B v L)
    (g : Nat) (hx : a.eval x = .slice (some ⟨g, 0, none⟩) 1 1) (hc : ∀ t u, (enc y)[t]? = some u → w.cell? ⟨g, t, none⟩ = some u)
    (hlen : (L.length + 1) * bytes ≤ 140737488355328) (hlen2 : L.length + 1 ≤ 140737488355328) (hbase : B ≤ w.heap.size)
    (h : ∀ v' w', OwnG enc size T w' B v' (L ++ [y]) → w.grownBy w' v.ownBlock → (v'.ownBlock = v.ownBlock ∨ v'.ownBlock = some w.heap.size) → K (a.put o.dst v') w') : Oper.wp Tryz.prog o a w K Q := by
  obtain ⟨i, hi, hz0, hz1, hz2⟩ : ∃ i, Tryz.prog.info? T = some i ∧ i.zero = some z ∧ i.size = size ∧ i.bytes = bytes := by
    cases hi : Tryz.prog.info? T with
    | none => rw [hi] at hinfo; cases hinfo
    | some i =>
      rw [hi] at hinfo
      simp only [Option.map_some, Option.some.injEq, Prod.mk.injEq] at hinfo
      exact ⟨i, rfl, hinfo.1, hinfo.2.1, hinfo.2.2⟩
  obtain ⟨v', w', hr, h2, h3, h4, h5⟩ := run_append_own_at (P := Tryz.prog) w B S o.type T i z size bytes hu hi hz0 hz1 hz2 hzs hsz v L.length (L.flatMap enc) hown ⟨g, 0, none⟩ 1 1 (enc y) (by rw [hf, Nat.one_mul]) (by
    intro j u hj
    have e : (⟨g, 0, none⟩ : Addr).add j = ⟨g, j, none⟩ := by unfold Addr.add; split <;> simp_all
    rw [e]
    exact hc j u hj) hone (by unfold maxLen; omega) hlen hbase
  unfold Oper.wp execOp
  simp only [ho, resolve, invoke, builtin, Sem.run_bind, Sem.run_pure, Result.andThen_ok, List.map_toArray, List.map_cons, List.map_nil, hs, hx, hr]
  refine h v' w' ?_ h3 h5
  unfold OwnG
  rw [List.flatMap_append, List.length_append, List.flatMap_cons, List.flatMap_nil, List.append_nil]
  exact h2
end

end Go.Proofs.YtncfejndmlcidaaGreat
