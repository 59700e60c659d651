/- Rows of values that a call owns. Rows of values that are copied, and rows of values held against each other. -/
import Derived.Laws.AppendOwnNone
import Derived.Laws.OwnMore
import Derived.Test.YteadniomgbhecaaGreatDoorGWRCheck
namespace Go.Proofs.YteadniomgbhecaaGreatDoor
open Go.RowKit
set_option maxRecDepth 100000

theorem info_val : (Tryz.prog.info? 45).map (fun i => (i.zero, i.size, i.bytes)) = some (some (.agg #[.int .i64 0, .int .i64 0, .float .f64 0, .string ⟨#[]⟩]), 4, 40) := by kernel_rfl
def vcell (v : Vl) : List Value := [.int .i64 v.k, .int .i64 v.n, .float .f64 v.f, .string v.s]
/-- values as cells -/
def vcells (L : List Vl) : List Value := L.flatMap vcell
theorem vcells_len (L : List Vl) : (vcells L).length = L.length * 4 := by
  induction L with
  | nil => rfl
  | cons v L ih => simp only [vcells, List.flatMap_cons, List.length_append, List.length_cons] at ih ⊢; rw [ih]; simp [vcell]; omega
theorem vcells_append (a b : List Vl) : vcells (a ++ b) = vcells a ++ vcells b := by simp [vcells]
/-- the slice v owns these values, in a block of number B or more -/
def OwnV (w : World) (B : Nat) (v : Value) (L : List Vl) : Prop := w.ownsRow B 45 4 v L.length (vcells L)
theorem OwnV.nil (w : World) (B : Nat) : OwnV w B (.slice none 0 0) [] := World.ownsRow_nil w B _ _
theorem OwnV.kept {w w' : World} {B : Nat} {v : Value} {L : List Vl} (h : OwnV w B v L) (hb : Below w.heap.size w w') : OwnV w' B v L := by
  refine ⟨h.1, ?_⟩
  rcases h.2 with h1 | ⟨g, cap, cur, e, hb', hg, r⟩
  · exact .inl h1
  · exact .inr ⟨g, cap, cur, e, hb', (hb.block g (Array.getElem?_eq_some_iff.1 hg).1).trans hg, r⟩
theorem vcell_at (L : List Vl) (i : Nat) (hi : i < L.length) (t : Nat) (ht : t < 4) : (vcells L)[i * 4 + t]? = (vcell L[i])[t]? := by
  induction L generalizing i with
  | nil => simp at hi
  | cons v L ih =>
    have hl : (vcell v).length = 4 := rfl
    simp only [vcells, List.flatMap_cons]
    cases i with
    | zero => rw [Nat.zero_mul, Nat.zero_add, List.getElem?_append_left (by omega)]; rfl
    | succ i =>
      rw [List.getElem?_append_right (by omega)]
      have e : (i + 1) * 4 + t - (vcell v).length = i * 4 + t := by omega
      rw [e]
      exact ih i (by simpa using hi)
/-- what is owned can be read as a list of values -/
theorem OwnV.row {w : World} {B : Nat} {v : Value} {L : List Vl} (h : OwnV w B v L) : ∃ (p : Option Addr) (c : Nat), v = .slice p L.length c ∧ RowV w w.heap.size p L := by
  rcases h.2 with ⟨h1, h2⟩ | ⟨g, cap, cur, e, hb, hg, hr⟩
  · have : L = [] := List.eq_nil_of_length_eq_zero h2
    subst this
    exact ⟨none, 0, h1, fun i hi => absurd hi (by simp)⟩
  · refine ⟨_, cap, e, fun i hi => ?_⟩
    subst e
    have hc : ∀ t, t < 4 → w.cell? ⟨g, i * 4 + t, none⟩ = (vcell L[i])[t]? := by
      intro t ht
      have := World.ownsRow.cellAt (w := w) (e := 45) (size := 4) (g := g) (cap := cap) h (i * 4 + t) (by omega)
      rw [this, vcell_at L i hi t ht]
    have h0 := hc 0 (by decide)
    have h1 := hc 1 (by decide)
    have h2 := hc 2 (by decide)
    have h3 := hc 3 (by decide)
    refine ⟨g, 0, rfl, (Array.getElem?_eq_some_iff.1 hg).1, ?_, ?_, ?_, ?_⟩
    · rw [Nat.zero_add]; exact h0
    · rw [Nat.zero_add]; exact h1
    · rw [Nat.zero_add]; exact h2
    · rw [Nat.zero_add]; exact h3

/-- 'append(l, v)' -/
theorem wpList_appV {ops : Array Oper} {rest : List Oper} {o : Oper} {a : Act} {Q : Exit → Act → World → Prop} (w : World) (hgd : o.guard = none) (s x : Operand)
    (ho : o.op = .call { callee := .builtin .append, args := #[s, x], argTypes := #[28, 28] })
    (B : Nat) (v : Value) (L : List Vl) (hs : a.eval s = v) (hown : OwnV w B v L)
    (u : Vl) (g : Nat) (hx : a.eval x = .slice (some ⟨g, 0, none⟩) 1 1) (hgz : g = w.heap.size)
    (hlen : L.length + 1 ≤ 3518437208883) (hbase : B ≤ w.heap.size)
    (h : ∀ v' w', OwnV w' B v' (L ++ [u]) → Below B w w' → wpList Tryz.prog ops Q rest (a.put o.dst v') w') : wpList Tryz.prog ops Q (o :: rest) a (w.alloc (.cells #[.int .i64 u.k, .int .i64 u.n, .float .f64 u.f, .string u.s] 45)) := by
  obtain ⟨i, hi, hz0, hz1, hz2⟩ := info_parts info_val
  subst hgz
  have hown' : OwnV (w.alloc (.cells #[.int .i64 u.k, .int .i64 u.n, .float .f64 u.f, .string u.s] 45)) B v L := hown.kept ((Below.refl _ _).alloc (Nat.le_refl _) _)
  refine wpList_append_own _ hgd s x 28 ho B 45 i (.agg #[.int .i64 0, .int .i64 0, .float .f64 0, .string ⟨#[]⟩]) 4 40 Tryz.underlying28 hi hz0 hz1 hz2 rfl (by decide) v L.length (vcells L) hs hown' ⟨w.heap.size, 0, none⟩ 1 1 (vcells [u]) hx rfl ?_ ?_ (by unfold maxLen; omega) (by omega) (by simp; omega) ?_
  · intro j y hj
    have hj' : j < 4 := by
      have := (List.getElem?_eq_some_iff.1 hj).1
      simpa [vcells, vcell] using this
    have e : (⟨w.heap.size, 0, none⟩ : Addr).add j = ⟨w.heap.size, j, none⟩ := by unfold Addr.add; split <;> simp_all
    rw [e]
    have h4 : j = 0 ∨ j = 1 ∨ j = 2 ∨ j = 3 := by omega
    rcases h4 with rfl | rfl | rfl | rfl <;> (simp [vcells, vcell] at hj; subst hj; simp [go_sem])
  · intro y hy
    simp [vcells, vcell] at hy
    rcases hy with rfl | rfl | rfl | rfl <;> rfl
  · intro v' w' h1 h2 _
    refine h v' w' ?_ ?_
    · unfold OwnV
      rw [vcells_append, List.length_append]
      exact h1
    · exact ((Below.refl _ _).alloc hbase _).grown h2 (by simp; omega) (fun k hk => (hown'.lt k hk).1)
theorem OwnV.form {w : World} {B : Nat} {v : Value} {L : List Vl} (h : OwnV w B v L) : (v = .slice none 0 0 ∧ L = []) ∨ ∃ g cap, v = .slice (some ⟨g, 0, none⟩) L.length cap ∧ B ≤ g ∧ g < w.heap.size := by
  rcases h.2 with ⟨h1, h2⟩ | ⟨g, cap, cur, e, hb, hg, _⟩
  · exact .inl ⟨h1, List.eq_nil_of_length_eq_zero h2⟩
  · exact .inr ⟨g, cap, e, hb, (Array.getElem?_eq_some_iff.1 hg).1⟩
theorem vcells_cons (v : Vl) (L : List Vl) : vcells (v :: L) = .int .i64 v.k :: .int .i64 v.n :: .float .f64 v.f :: .string v.s :: vcells L := rfl
theorem vcells_set : ∀ (L : List Vl) (i : Nat) (r : Vl), i < L.length → vcells (L.set i r) = ((((vcells L).set (i * 4) (.int .i64 r.k)).set (i * 4 + 1) (.int .i64 r.n)).set (i * 4 + 2) (.float .f64 r.f)).set (i * 4 + 3) (.string r.s)
  | [], i, r, hi => by simp at hi
  | v :: L, 0, r, _ => rfl
  | v :: L, i + 1, r, hi => by
    have h := vcells_set L i r (by simpa using hi)
    have e : (i + 1) * 4 = i * 4 + 4 := by omega
    rw [List.set_cons_succ, vcells_cons, vcells_cons, e, h]
    rfl
theorem OwnV.set {w : World} {B g n cap : Nat} {L : List Vl} (h : OwnV w B (.slice (some ⟨g, 0, none⟩) n cap) L) (hn : L.length = n) (i : Nat) (hi : i < L.length) (r : Vl) :
    OwnV ((((w.setCell ⟨g, i * 4, none⟩ (.int .i64 r.k)).setCell ⟨g, i * 4 + 1, none⟩ (.int .i64 r.n)).setCell ⟨g, i * 4 + 2, none⟩ (.float .f64 r.f)).setCell ⟨g, i * 4 + 3, none⟩ (.string r.s)) B (.slice (some ⟨g, 0, none⟩) n cap) (L.set i r) := by
  subst hn
  have h' : w.ownsRow B 45 4 (.slice (some ⟨g, 0, none⟩) L.length cap) L.length (vcells L) := h
  have h3 := ((((h'.stored (i * 4) (.int .i64 r.k)).1.stored (i * 4 + 1) (.int .i64 r.n)).1.stored (i * 4 + 2) (.float .f64 r.f)).1.stored (i * 4 + 3) (.string r.s)).1
  unfold OwnV
  rw [List.length_set, vcells_set L i r hi]
  exact h3
theorem OwnV.at {w : World} {B g n cap : Nat} {L : List Vl} (h : OwnV w B (.slice (some ⟨g, 0, none⟩) n cap) L) (hn : L.length = n) (i : Nat) (hi : i < L.length) :
    (w.cell? ⟨g, i * 4, none⟩ = some (.int .i64 L[i].k) ∧ w.cell? ⟨g, i * 4 + 1, none⟩ = some (.int .i64 L[i].n) ∧ w.cell? ⟨g, i * 4 + 2, none⟩ = some (.float .f64 L[i].f) ∧ w.cell? ⟨g, i * 4 + 3, none⟩ = some (.string L[i].s)) ∧
    (w.frozen? ⟨g, i * 4, none⟩ = false ∧ w.frozen? ⟨g, i * 4 + 1, none⟩ = false ∧ w.frozen? ⟨g, i * 4 + 2, none⟩ = false ∧ w.frozen? ⟨g, i * 4 + 3, none⟩ = false) := by
  subst hn
  have h' : w.ownsRow B 45 4 (.slice (some ⟨g, 0, none⟩) L.length cap) L.length (vcells L) := h
  exact ⟨⟨(h'.cellAt (i * 4) (by omega)).trans (vcell_at L i hi 0 (by decide)), (h'.cellAt (i * 4 + 1) (by omega)).trans (vcell_at L i hi 1 (by decide)), (h'.cellAt (i * 4 + 2) (by omega)).trans (vcell_at L i hi 2 (by decide)), (h'.cellAt (i * 4 + 3) (by omega)).trans (vcell_at L i hi 3 (by decide))⟩, h'.frozenAt _, h'.frozenAt _, h'.frozenAt _, h'.frozenAt _⟩

end Go.Proofs.YteadniomgbhecaaGreatDoor

namespace Go.Proofs.YteadniomgbhecaaGreatDoor
open Go.RowKit
set_option maxRecDepth 100000





end Go.Proofs.YteadniomgbhecaaGreatDoor
