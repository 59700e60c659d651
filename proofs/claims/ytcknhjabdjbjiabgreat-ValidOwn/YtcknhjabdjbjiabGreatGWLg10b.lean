/- What a commit makes of the stamps of points; a commit that is being put into a Log. A commit that is being put into a Log: between the entry of a point's stamps and its store. -/
import Derived.Test.YtcknhjabdjbjiabGreatGWLg7
namespace Go.Proofs.YtcknhjabdjbjiabGreat
open Go.RowKit
set_option maxRecDepth 100000

theorem OwnC.form {w : World} {B : Nat} {v : Value} {L : List Cm} (h : OwnC w B v L) : ∃ p n c, v = .slice p n c := by
  obtain ⟨p, c, e, _⟩ := h.row
  exact ⟨p, _, c, e⟩
theorem OwnC.ne {w : World} {B : Nat} {v : Value} {L : List Cm} (h : OwnC w B v L) {g : Nat} {cs : Array Value} {T : TypeId} (hb : Blk w g cs T) (hT : T ≠ 75) : some g ≠ v.ownBlock := fun e => by
  obtain ⟨_, cur, h1⟩ := h.blk e.symm
  rw [show w.heap[g]? = some (.cells cs T (0, 0)) from hb] at h1
  cases h1
  exact hT rfl
theorem StM.by {w w' : World} {B mb : Nat} {f : Pt → List Nat} {E : List (Pt × Value × List Nat)} (h : StM w B mb f E) (hm : w'.heap[mb]? = w.heap[mb]?) (hu : ∀ (g : Nat) (cur : Array Value), w.heap[g]? = some (.cells cur 23 (0, 0)) → w'.heap[g]? = w.heap[g]?) : StM w' B mb f E :=
  ⟨h.map.of_block hm, fun e he => (h.own e he).by (fun g hg => by obtain ⟨_, cur, h1⟩ := (h.own e he).blk hg; exact hu g cur h1), h.apart, h.nodup, h.val, h.all⟩
def addFs (f : Pt → List Nat) (Q : List Pt) (s : Nat) : Pt → List Nat := fun y => if y ∈ Q then f y ++ [s] else f y
theorem addFs_nil (f : Pt → List Nat) (s : Nat) : addFs f [] s = f := by
  funext y
  unfold addFs
  rw [if_neg (by simp)]
theorem addFs_snoc (f : Pt → List Nat) (Q : List Pt) (s : Nat) (x : Pt) (hx : x ∉ Q) : addF (addFs f Q s) x s = addFs f (Q ++ [x]) s := by
  funext y
  unfold addF addFs
  by_cases hy : y = x
  · subst hy
    rw [if_pos rfl, if_neg hx, if_pos (by simp)]
  · rw [if_neg hy]
    by_cases hq : y ∈ Q
    · rw [if_pos hq, if_pos (by simp [hq])]
    · rw [if_neg hq, if_neg (by simp [hq, hy])]
theorem addFs_end (L : List Cm) (c : Cm) : addFs (stsAt L) c.W c.s = stsAt (L ++ [c]) := by
  funext y
  unfold addFs stsAt
  rw [List.filter_append, List.map_append]
  by_cases h : y ∈ c.W
  · rw [if_pos h]; simp [h]
  · rw [if_neg h]; simp [h]
theorem InvC.snoc {L : List Cm} (hI : InvC L) (c : Cm) (h1 : 1 ≤ c.s) (h2 : c.s ≤ 4611686018427387904) (hla : lastC L < c.s) (hlen : L.length < 4096) (hw : c.W.length ≤ 65536) : InvC (L ++ [c]) := by
  refine ⟨fun i j hi hj hij => ?_, ?_, ?_, by rw [List.length_append]; simp; omega, ?_⟩
  · rw [List.length_append] at hi hj
    simp at hi hj
    have hiL : i < L.length := by omega
    rw [List.getElem_append_left hiL]
    rcases Nat.lt_or_ge j L.length with h | h
    · rw [List.getElem_append_left h]
      exact hI.ris i j hiL h hij
    · rw [List.getElem_append_right h]
      have := last_le hI L[i] (List.getElem_mem hiL)
      simp
      omega
  all_goals
    intro x hx
    rcases List.mem_append.1 hx with hx | hx
    · first | exact hI.lo x hx | exact hI.hi x hx | exact hI.lw x hx
    · rw [List.mem_singleton] at hx
      subst hx
      assumption
/-- a commit is being put into a Log -/
structure KpI (w wr : World) (B lb mb s : Nat) (v4 : Value) (L : List Cm) (c : Cm) (j : Nat) (E : List (Pt × Value × List Nat)) : Prop where
  blk : Blk wr lb #[ptr1 lb, v4, .map (some mb)] 49
  com : OwnC wr B v4 (L ++ [c])
  ft : ∀ x ∈ L ++ [c], OwnFt wr B x
  sts : StM wr B mb (addFs (stsAt L) (c.W.take j) s) E
  frm : Frm w wr (FB B w)
theorem KpI.on {w wr w' : World} {B lb mb s : Nat} {v4 : Value} {L : List Cm} {c : Cm} {j : Nat} {E : List (Pt × Value × List Nat)} (h : KpI w wr B lb mb s v4 L c j E) (hb : Below wr.heap.size wr w') : KpI w w' B lb mb s v4 L c j E :=
  ⟨h.blk.on hb, h.com.on hb, fun x hx => (h.ft x hx).fb (C := 0) (FB.of_below hb), h.sts.on hb, FB.trans h.frm (FB.of_below hb)⟩

end Go.Proofs.YtcknhjabdjbjiabGreat

namespace Go.Proofs.YtcknhjabdjbjiabGreat
open Go.RowKit
set_option maxRecDepth 100000

/-- the entry of a point is at hand -/
structure EnI (w wa w4 : World) (B lb mb s : Nat) (v4 : Value) (L : List Cm) (c : Cm) (j : Nat) (E : List (Pt × Value × List Nat)) (x : Pt) (v0 : Value) (ei bn : Nat) : Prop where
  k : KpI w wa B lb mb s v4 L c j E
  v : getV (E.map kvU) x = v0
  ent : EntM w4 mb (putV (E.map kvU) x v0) ei bn
  set : ∀ v, (putV (E.map kvU) x v0).set ei (x, v) = putV (E.map kvU) x v
  ex : ∃ v, (putV (E.map kvU) x v0)[ei]? = some (x, v)
  frm : Frm wa w4 (fun k => k = mb)
  mlt : mb < wa.heap.size
theorem map_not_cells {w : World} {mb : Nat} {E : List (Pt × Value)} (h : MapV w mb E) {k : Nat} {cs : Array Value} {T : TypeId} {m : Nat × Nat} (hk : w.heap[k]? = some (.cells cs T m)) : k ≠ mb := by
  rintro rfl
  obtain ⟨es, c, h3, _⟩ := h.f
  rw [hk] at h3
  cases h3
theorem EnI.new {w wa w4 : World} {B lb mb s : Nat} {v4 : Value} {L : List Cm} {c : Cm} {j : Nat} {E : List (Pt × Value × List Nat)} {x : Pt} {ei bn : Nat} (h : KpI w wa B lb mb s v4 L c j E)
    (hE : EntM w4 mb (putV (E.map kvU) x (getV (E.map kvU) x)) ei bn) (hs : ∀ v, (putV (E.map kvU) x (getV (E.map kvU) x)).set ei (x, v) = putV (E.map kvU) x v) (hx : ∃ v, (putV (E.map kvU) x (getV (E.map kvU) x))[ei]? = some (x, v)) (hg : wa.grownBy w4 (some mb)) : EnI w wa w4 B lb mb s v4 L c j E x (getV (E.map kvU) x) ei bn :=
  ⟨h, rfl, hE, hs, hx, Frm.of_grown hg (fun g e => by cases e; exact .inl rfl), h.sts.map.lt⟩
theorem EnI.cells {w wa w4 : World} {B lb mb s : Nat} {v4 : Value} {L : List Cm} {c : Cm} {j : Nat} {E : List (Pt × Value × List Nat)} {x : Pt} {v0 : Value} {ei bn : Nat} (h : EnI w wa w4 B lb mb s v4 L c j E x v0 ei bn) {k : Nat} {cs : Array Value} {T : TypeId} {m : Nat × Nat} (hk : wa.heap[k]? = some (.cells cs T m)) : w4.heap[k]? = some (.cells cs T m) :=
  (h.frm.block k (Array.getElem?_eq_some_iff.1 hk).1 (map_not_cells h.k.sts.map hk)).trans hk
theorem EnI.blk {w wa w4 : World} {B lb mb s : Nat} {v4 : Value} {L : List Cm} {c : Cm} {j : Nat} {E : List (Pt × Value × List Nat)} {x : Pt} {v0 : Value} {ei bn : Nat} (h : EnI w wa w4 B lb mb s v4 L c j E x v0 ei bn) : Blk w4 lb #[ptr1 lb, v4, .map (some mb)] 49 := h.cells h.k.blk
theorem EnI.on {w wa w4 w5 : World} {B lb mb s : Nat} {v4 : Value} {L : List Cm} {c : Cm} {j : Nat} {E : List (Pt × Value × List Nat)} {x : Pt} {v0 : Value} {ei bn : Nat} (h : EnI w wa w4 B lb mb s v4 L c j E x v0 ei bn) (hb : Below w4.heap.size w4 w5) : EnI w wa w5 B lb mb s v4 L c j E x v0 ei bn :=
  ⟨h.k, h.v, h.ent.of_block (hb.block _ h.ent.mapV.lt), h.set, h.ex, h.frm.trans (Frm.of_below (F := fun k => k = mb) hb) (fun _ hk => .inl hk), h.mlt⟩
theorem EnI.own {w wa w4 : World} {B lb mb s : Nat} {v4 : Value} {L : List Cm} {c : Cm} {j : Nat} {E : List (Pt × Value × List Nat)} {x : Pt} {v0 : Value} {ei bn : Nat} (h : EnI w wa w4 B lb mb s v4 L c j E x v0 ei bn) (hx : x ∉ c.W.take j) : OwnU w4 B v0 (stsAt L x) := by
  have h1 := h.k.sts.get x
  rw [h.v] at h1
  have e : addFs (stsAt L) (c.W.take j) s x = stsAt L x := by unfold addFs; rw [if_neg hx]
  rw [e] at h1
  exact h1.by (fun g hg => by
    obtain ⟨_, cur, h2⟩ := h1.blk hg
    rw [h2]
    exact h.cells h2)
theorem EnI.done {w wa w4 w5 w6 : World} {B lb mb s : Nat} {v4 : Value} {L : List Cm} {c : Cm} {j : Nat} {E : List (Pt × Value × List Nat)} {x : Pt} {v0 : Value} {ei bn : Nat} (h : EnI w wa w4 B lb mb s v4 L c j E x v0 ei bn) (hx : c.W.take (j + 1) = c.W.take j ++ [x] ∧ x ∉ c.W.take j) (hmB : B ≤ mb)
    {v5 : Value} (h5 : OwnU w5 B v5 (stsAt L x ++ [s])) (hg5 : w4.grownBy w5 v0.ownBlock) (hat5 : v5.ownBlock = v0.ownBlock ∨ v5.ownBlock = some w4.heap.size) (hm6 : MapV w6 mb (putV (E.map kvU) x v5)) (hg6 : w5.grownBy w6 (some mb)) : ∃ E', KpI w w6 B lb mb s v4 L c (j + 1) E' := by
  have ho := h.own hx.2
  have hvb : ∀ g, v0.ownBlock = some g → ∃ cur, w4.heap[g]? = some (.cells cur 23 (0, 0)) := fun g hg => (ho.blk hg).2
  have hm5 : w5.heap[mb]? = w4.heap[mb]? := hg5.block mb h.ent.mapV.lt (fun e => by
    obtain ⟨cur, h1⟩ := hvb mb e.symm
    exact map_not_cells h.ent.mapV h1 rfl)
  have f5 : Frm wa w5 (FB B wa) := (h.frm.mono (G := FB B wa) (fun k hk => .inl ⟨by omega, .inl (by
    subst hk
    obtain ⟨es, c9, h1, _⟩ := h.k.sts.map.f
    exact ⟨es, c9, h1⟩)⟩)).trans (Frm.of_grown (F := fun k => v0.ownBlock = some k) hg5 (fun g e => .inl e)) (fun k hk => by
    have h1 := h.k.sts.get x
    rw [h.v] at h1
    obtain ⟨h2, cur, h3⟩ := h1.blk hk
    exact .inl ⟨h2, .inr ⟨_, _, _, h3, .inr (.inr rfl)⟩⟩)
  have f6 : Frm wa w6 (FB B wa) := f5.trans (Frm.of_grown (F := fun k => k = mb) hg6 (fun g e => by cases e; exact .inl rfl)) (fun k hk => .inl ⟨by omega, .inl (by
    subst hk
    obtain ⟨es, c9, h1, _⟩ := h.k.sts.map.f
    exact ⟨es, c9, h1⟩)⟩)
  have hcel : ∀ {k : Nat} {cs : Array Value} {T : TypeId}, T ≠ 23 → wa.heap[k]? = some (.cells cs T (0, 0)) → w6.heap[k]? = wa.heap[k]? := fun {k cs T} hT hk => by
    have e4 := h.cells hk
    have l4 := (Array.getElem?_eq_some_iff.1 e4).1
    have n5 : some k ≠ v0.ownBlock := fun e => by
      obtain ⟨cur, h1⟩ := hvb k e.symm
      rw [e4] at h1
      cases h1
      exact hT rfl
    have e5 := (hg5.block k l4 n5).trans e4
    rw [hg6.block k (Array.getElem?_eq_some_iff.1 e5).1 (fun e => by
      have := Option.some.inj e
      exact map_not_cells h.k.sts.map hk this), e5, hk]
  obtain ⟨E', hS, _⟩ := StM.put (w := wa) (w2 := w6) h.k.sts x s v5 hm6 (by
    have e : addFs (stsAt L) (c.W.take j) s x = stsAt L x := by unfold addFs; rw [if_neg hx.2]
    rw [e]
    exact h5.by (fun g hg => hg6.block g (h5.lt hg) (fun e => by
      have e' := Option.some.inj e
      subst e'
      obtain ⟨_, cur, h1⟩ := h5.blk hg
      rw [hm5] at h1
      exact map_not_cells h.ent.mapV h1 rfl))) (fun k hk hkm hkv => by
    rw [h.v] at hkv
    have h4 := h.frm.block k hk hkm
    rw [hg6.block k (Nat.lt_of_lt_of_le (Nat.lt_of_lt_of_le hk h.frm.size) hg5.size) (fun e => hkm (Option.some.inj e)), hg5.block k (Nat.lt_of_lt_of_le hk h.frm.size) hkv, h4]) (by
    rw [h.v]
    rcases hat5 with h1 | h1
    · exact .inl h1
    · exact .inr ⟨_, h1, h.frm.size⟩)
  rw [addFs_snoc _ _ _ _ hx.2, ← hx.1] at hS
  exact ⟨E', ⟨(hcel (by decide) h.k.blk).trans h.k.blk, h.k.com.by (fun g hg => by
    obtain ⟨_, cur, h1⟩ := h.k.com.blk hg
    exact hcel (by decide) h1), fun y hy => (h.k.ft y hy).fb f6, hS, FB.trans h.k.frm f6⟩⟩

end Go.Proofs.YtcknhjabdjbjiabGreat
