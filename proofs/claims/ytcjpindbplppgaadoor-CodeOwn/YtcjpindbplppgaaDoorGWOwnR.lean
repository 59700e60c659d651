/- Rows of ranges that a call owns: read, written, grown, sorted. -/
import Derived.Test.YtcjpindbplppgaaDoorGWSort
import Derived.Test.YtcjpindbplppgaaDoorGWDec5
namespace Go.Proofs.YtcjpindbplppgaaDoor
open Go.Shelf Go.RowKit Go.Lib Go.Sort
set_option maxRecDepth 100000

theorem info_rng : (Tryd.prog.info? 35).map (fun i => (i.zero, i.size, i.bytes)) = some (some (.agg #[.string ⟨#[]⟩, .string ⟨#[]⟩, .bool false]), 3, 40) := by kernel_rfl
/-- ranges as cells -/
def rcells (L : List Rg) : List Value := L.flatMap encR
theorem rcells_cons (r : Rg) (L : List Rg) : rcells (r :: L) = .string r.lo :: .string r.hi :: .bool r.op :: rcells L := rfl
theorem rcells_len (L : List Rg) : (rcells L).length = L.length * 3 := by
  induction L with
  | nil => rfl
  | cons v L ih => rw [rcells_cons]; simp only [List.length_cons]; rw [ih]; omega
theorem rcells_append (a b : List Rg) : rcells (a ++ b) = rcells a ++ rcells b := by simp [rcells]
theorem rcell_at : ∀ (L : List Rg) (i : Nat) (hi : i < L.length), (rcells L)[i * 3]? = some (.string L[i].lo) ∧ (rcells L)[i * 3 + 1]? = some (.string L[i].hi) ∧ (rcells L)[i * 3 + 2]? = some (.bool L[i].op)
  | [], i, hi => by simp at hi
  | r :: L, 0, _ => ⟨rfl, rfl, rfl⟩
  | r :: L, i + 1, hi => by
    have h := rcell_at L i (by simpa using hi)
    have e : (i + 1) * 3 = i * 3 + 3 := by omega
    rw [rcells_cons, e]
    exact h
theorem rcells_set : ∀ (L : List Rg) (i : Nat) (r : Rg), i < L.length → rcells (L.set i r) = (((rcells L).set (i * 3) (.string r.lo)).set (i * 3 + 1) (.string r.hi)).set (i * 3 + 2) (.bool r.op)
  | [], i, r, hi => by simp at hi
  | v :: L, 0, r, _ => rfl
  | v :: L, i + 1, r, hi => by
    have h := rcells_set L i r (by simpa using hi)
    have e : (i + 1) * 3 = i * 3 + 3 := by omega
    rw [List.set_cons_succ, rcells_cons, rcells_cons, e, h]
    rfl
/-- the slice v owns these ranges, in a block of number B or more -/
def OwnR (w : World) (B : Nat) (v : Value) (L : List Rg) : Prop := w.ownsRow B 35 3 v L.length (rcells L)
theorem OwnR.nil (w : World) (B : Nat) : OwnR w B (.slice none 0 0) [] := World.ownsRow_nil w B _ _
theorem OwnR.kept {w w' : World} {B : Nat} {v : Value} {L : List Rg} (h : OwnR w B v L) (hb : Below w.heap.size w w') : OwnR w' B v L := by
  refine ⟨h.1, ?_⟩
  rcases h.2 with h1 | ⟨g, cap, cur, e, hb', hg, r⟩
  · exact .inl h1
  · exact .inr ⟨g, cap, cur, e, hb', (hb.block g (Array.getElem?_eq_some_iff.1 hg).1).trans hg, r⟩
theorem OwnR.form {w : World} {B : Nat} {v : Value} {L : List Rg} (h : OwnR w B v L) : (v = .slice none 0 0 ∧ L = []) ∨ ∃ g cap, v = .slice (some ⟨g, 0, none⟩) L.length cap ∧ B ≤ g ∧ g < w.heap.size := by
  rcases h.2 with ⟨h1, h2⟩ | ⟨g, cap, cur, e, hb, hg, _⟩
  · exact .inl ⟨h1, List.eq_nil_of_length_eq_zero h2⟩
  · exact .inr ⟨g, cap, e, hb, (Array.getElem?_eq_some_iff.1 hg).1⟩
theorem OwnR.at {w : World} {B g cap : Nat} {L : List Rg} (h : OwnR w B (.slice (some ⟨g, 0, none⟩) L.length cap) L) (i : Nat) (hi : i < L.length) :
    (w.cell? ⟨g, i * 3, none⟩ = some (.string L[i].lo) ∧ w.cell? ⟨g, i * 3 + 1, none⟩ = some (.string L[i].hi) ∧ w.cell? ⟨g, i * 3 + 2, none⟩ = some (.bool L[i].op)) ∧
    (w.frozen? ⟨g, i * 3, none⟩ = false ∧ w.frozen? ⟨g, i * 3 + 1, none⟩ = false ∧ w.frozen? ⟨g, i * 3 + 2, none⟩ = false) := by
  obtain ⟨a0, a1, a2⟩ := rcell_at L i hi
  have h' : w.ownsRow B 35 3 (.slice (some ⟨g, 0, none⟩) L.length cap) L.length (rcells L) := h
  exact ⟨⟨(h'.cellAt (i * 3) (by omega)).trans a0, (h'.cellAt (i * 3 + 1) (by omega)).trans a1, (h'.cellAt (i * 3 + 2) (by omega)).trans a2⟩, h'.frozenAt _, h'.frozenAt _, h'.frozenAt _⟩
/-- 's[i] = r' -/
theorem OwnR.set {w : World} {B g cap : Nat} {L : List Rg} (h : OwnR w B (.slice (some ⟨g, 0, none⟩) L.length cap) L) (i : Nat) (hi : i < L.length) (r : Rg) :
    OwnR (((w.setCell ⟨g, i * 3, none⟩ (.string r.lo)).setCell ⟨g, i * 3 + 1, none⟩ (.string r.hi)).setCell ⟨g, i * 3 + 2, none⟩ (.bool r.op)) B (.slice (some ⟨g, 0, none⟩) L.length cap) (L.set i r) := by
  have h' : w.ownsRow B 35 3 (.slice (some ⟨g, 0, none⟩) L.length cap) L.length (rcells L) := h
  have h3 := (((h'.stored (i * 3) (.string r.lo)).1.stored (i * 3 + 1) (.string r.hi)).1.stored (i * 3 + 2) (.bool r.op)).1
  unfold OwnR
  rw [List.length_set, rcells_set L i r hi]
  exact h3

/-- 'append(l, r)' -/
theorem wpList_appR {ops : Array Oper} {rest : List Oper} {o : Oper} {a : Act} {Q : Exit → Act → World → Prop} (w : World) (hgd : o.guard = none) (s x : Operand)
    (ho : o.op = .call { callee := .builtin .append, args := #[s, x], argTypes := #[23, 23] })
    (B : Nat) (v : Value) (L : List Rg) (hs : a.eval s = v) (hown : OwnR w B v L)
    (u : Rg) (g : Nat) (hx : a.eval x = .slice (some ⟨g, 0, none⟩) 1 1) (hgz : g = w.heap.size)
    (hlen : L.length + 1 ≤ 3518437208883) (hbase : B ≤ w.heap.size)
    (h : ∀ v' w', OwnR w' B v' (L ++ [u]) → Below B w w' → wpList Tryd.prog ops Q rest (a.put o.dst v') w') : wpList Tryd.prog ops Q (o :: rest) a (w.alloc (.cells #[.string u.lo, .string u.hi, .bool u.op] 35)) := by
  obtain ⟨i, hi, hz0, hz1, hz2⟩ := info_parts info_rng
  subst hgz
  have hown' : OwnR (w.alloc (.cells #[.string u.lo, .string u.hi, .bool u.op] 35)) B v L := hown.kept ((Below.refl _ _).alloc (Nat.le_refl _) _)
  refine wpList_append_own _ hgd s x 23 ho B 35 i (.agg #[.string ⟨#[]⟩, .string ⟨#[]⟩, .bool false]) 3 40 Tryd.underlying23 hi hz0 hz1 hz2 rfl (by decide) v L.length (rcells L) hs hown' ⟨w.heap.size, 0, none⟩ 1 1 (rcells [u]) hx rfl ?_ ?_ (by unfold maxLen; omega) (by omega) (by simp; omega) ?_
  · intro j y hj
    have hj' : j < 3 := by
      have := (List.getElem?_eq_some_iff.1 hj).1
      simpa [rcells, encR] using this
    have e : (⟨w.heap.size, 0, none⟩ : Addr).add j = ⟨w.heap.size, j, none⟩ := by unfold Addr.add; split <;> simp_all
    rw [e]
    have h4 : j = 0 ∨ j = 1 ∨ j = 2 := by omega
    rcases h4 with rfl | rfl | rfl <;> (simp [rcells, encR] at hj; subst hj; simp [go_sem])
  · intro y hy
    simp [rcells, encR] at hy
    rcases hy with rfl | rfl | rfl <;> rfl
  · intro v' w' h1 h2 _
    refine h v' w' ?_ ?_
    · unfold OwnR
      rw [rcells_append, List.length_append]
      exact h1
    · exact ((Below.refl _ _).alloc hbase _).grown h2 (by simp; omega) (fun k hk => (hown'.lt k hk).1)

/-- what is owned, in the sort's words -/
theorem OwnR.holds [Inhabited Rg] {w : World} {B g cap : Nat} {L : List Rg} (h : OwnR w B (.slice (some ⟨g, 0, none⟩) L.length cap) L) : HoldsK encR 3 w g 0 L.toArray := by
  intro j hj
  rw [size_flatK] at hj
  have hj' : j < L.length * 3 := by simpa using hj
  rw [get_flatK encR 3 L.toArray j hj, Nat.zero_add]
  have hi : j / 3 < L.length := by omega
  obtain ⟨⟨c0, c1, c2⟩, f0, f1, f2⟩ := h.at (j / 3) hi
  have eL : L.toArray[j / 3]! = L[j / 3] := by simp [getElem!_pos, hi]
  rw [eL]
  have h3 : j % 3 = 0 ∨ j % 3 = 1 ∨ j % 3 = 2 := by omega
  rcases h3 with e | e | e
  · have ej : j = j / 3 * 3 := by omega
    rw [e]
    rw [← ej] at c0 f0
    exact ⟨c0, f0⟩
  · have ej : j = j / 3 * 3 + 1 := by omega
    rw [e]
    rw [← ej] at c1 f1
    exact ⟨c1, f1⟩
  · have ej : j = j / 3 * 3 + 2 := by omega
    rw [e]
    rw [← ej] at c2 f2
    exact ⟨c2, f2⟩

end Go.Proofs.YtcjpindbplppgaaDoor
