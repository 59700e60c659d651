/- Rows of values that a call owns. One element put behind a row that the call owns, whatever its type; numbers, columns, indexes, references. -/
import Derived.Laws.AppendOwnNone
import Derived.Laws.OwnMore
import Derived.Test.YthbjheiogghjnaaGreatDoorGWPrt2
import Derived.Test.YthbjheiogghjnaaGreatDoorGWPrint
namespace Go.Proofs.YthbjheiogghjnaaGreatDoor
open Go.RowKit
set_option maxRecDepth 100000

theorem info_val : (Tryz.prog.info? 38).map (fun i => (i.zero, i.size, i.bytes)) = some (some (.agg #[.int .i64 0, .int .i64 0, .float .f64 0, .string ⟨#[]⟩]), 4, 40) := by kernel_rfl
def vcell (v : Vl) : List Value := [.int .i64 v.k, .int .i64 v.n, .float .f64 v.f, .string v.s]
/-- values as cells -/
def vcells (L : List Vl) : List Value := L.flatMap vcell
theorem vcells_len (L : List Vl) : (vcells L).length = L.length * 4 := by
  induction L with
  | nil => rfl
  | cons v L ih => simp only [vcells, List.flatMap_cons, List.length_append, List.length_cons] at ih ⊢; rw [ih]; simp [vcell]; omega
theorem vcells_append (a b : List Vl) : vcells (a ++ b) = vcells a ++ vcells b := by simp [vcells]
/-- the slice v owns these values, in a block of number B or more -/
def OwnV (w : World) (B : Nat) (v : Value) (L : List Vl) : Prop := w.ownsRow B 38 4 v L.length (vcells L)
theorem OwnV.nil (w : World) (B : Nat) : OwnV w B (.slice none 0 0) [] := World.ownsRow_nil w B _ _
theorem OwnV.kept {w w' : World} {B : Nat} {v : Value} {L : List Vl} (h : OwnV w B v L) (hb : Below w.heap.size w w') : OwnV w' B v L := by
  refine ⟨h.1, ?_⟩
  rcases h.2 with h1 | ⟨g, cap, cur, e, hb', hg, r⟩
  · exact .inl h1
  · exact .inr ⟨g, cap, cur, e, hb', (hb.block g (Array.getElem?_eq_some_iff.1 hg).1).trans hg, r⟩
theorem vcell_at (L : List Vl) (i : Nat) (hi : i < L.length) (t : Nat) (ht : t < 4) : (vcells L)[i * 4 + t]? = (vcell L[i])[t]? := by
  induction L generalizing i with
  | nil => simp at hi
  | cons v L ih =>
    have hl : (vcell v).length = 4 := rfl
    simp only [vcells, List.flatMap_cons]
    cases i with
    | zero => rw [Nat.zero_mul, Nat.zero_add, List.getElem?_append_left (by omega)]; rfl
    | succ i =>
      rw [List.getElem?_append_right (by omega)]
      have e : (i + 1) * 4 + t - (vcell v).length = i * 4 + t := by omega
      rw [e]
      exact ih i (by simpa using hi)
/-- what is owned can be read as a list of values -/
theorem OwnV.row {w : World} {B : Nat} {v : Value} {L : List Vl} (h : OwnV w B v L) : ∃ (p : Option Addr) (c : Nat), v = .slice p L.length c ∧ RowV w w.heap.size p L := by
  rcases h.2 with ⟨h1, h2⟩ | ⟨g, cap, cur, e, hb, hg, hr⟩
  · have : L = [] := List.eq_nil_of_length_eq_zero h2
    subst this
    exact ⟨none, 0, h1, fun i hi => absurd hi (by simp)⟩
  · refine ⟨_, cap, e, fun i hi => ?_⟩
    subst e
    have hc : ∀ t, t < 4 → w.cell? ⟨g, i * 4 + t, none⟩ = (vcell L[i])[t]? := by
      intro t ht
      have := World.ownsRow.cellAt (w := w) (e := 38) (size := 4) (g := g) (cap := cap) h (i * 4 + t) (by omega)
      rw [this, vcell_at L i hi t ht]
    have h0 := hc 0 (by decide)
    have h1 := hc 1 (by decide)
    have h2 := hc 2 (by decide)
    have h3 := hc 3 (by decide)
    refine ⟨g, 0, rfl, (Array.getElem?_eq_some_iff.1 hg).1, ?_, ?_, ?_, ?_⟩
    · rw [Nat.zero_add]; exact h0
    · rw [Nat.zero_add]; exact h1
    · rw [Nat.zero_add]; exact h2
    · rw [Nat.zero_add]; exact h3

/-- 'append(l, v)' -/
theorem wpList_appV {ops : Array Oper} {rest : List Oper} {o : Oper} {a : Act} {Q : Exit → Act → World → Prop} (w : World) (hgd : o.guard = none) (s x : Operand)
    (ho : o.op = .call { callee := .builtin .append, args := #[s, x], argTypes := #[54, 54] })
    (B : Nat) (v : Value) (L : List Vl) (hs : a.eval s = v) (hown : OwnV w B v L)
    (u : Vl) (g : Nat) (hx : a.eval x = .slice (some ⟨g, 0, none⟩) 1 1) (hgz : g = w.heap.size)
    (hlen : L.length + 1 ≤ 3518437208883) (hbase : B ≤ w.heap.size)
    (h : ∀ v' w', OwnV w' B v' (L ++ [u]) → Below B w w' → wpList Tryz.prog ops Q rest (a.put o.dst v') w') : wpList Tryz.prog ops Q (o :: rest) a (w.alloc (.cells #[.int .i64 u.k, .int .i64 u.n, .float .f64 u.f, .string u.s] 38)) := by
  obtain ⟨i, hi, hz0, hz1, hz2⟩ := info_parts info_val
  subst hgz
  have hown' : OwnV (w.alloc (.cells #[.int .i64 u.k, .int .i64 u.n, .float .f64 u.f, .string u.s] 38)) B v L := hown.kept ((Below.refl _ _).alloc (Nat.le_refl _) _)
  refine wpList_append_own _ hgd s x 54 ho B 38 i (.agg #[.int .i64 0, .int .i64 0, .float .f64 0, .string ⟨#[]⟩]) 4 40 Tryz.underlying54 hi hz0 hz1 hz2 rfl (by decide) v L.length (vcells L) hs hown' ⟨w.heap.size, 0, none⟩ 1 1 (vcells [u]) hx rfl ?_ ?_ (by unfold maxLen; omega) (by omega) (by simp; omega) ?_
  · intro j y hj
    have hj' : j < 4 := by
      have := (List.getElem?_eq_some_iff.1 hj).1
      simpa [vcells, vcell] using this
    have e : (⟨w.heap.size, 0, none⟩ : Addr).add j = ⟨w.heap.size, j, none⟩ := by unfold Addr.add; split <;> simp_all
    rw [e]
    have h4 : j = 0 ∨ j = 1 ∨ j = 2 ∨ j = 3 := by omega
    rcases h4 with rfl | rfl | rfl | rfl <;> (simp [vcells, vcell] at hj; subst hj; simp [go_sem])
  · intro y hy
    simp [vcells, vcell] at hy
    rcases hy with rfl | rfl | rfl | rfl <;> rfl
  · intro v' w' h1 h2 _
    refine h v' w' ?_ ?_
    · unfold OwnV
      rw [vcells_append, List.length_append]
      exact h1
    · exact ((Below.refl _ _).alloc hbase _).grown h2 (by simp; omega) (fun k hk => (hown'.lt k hk).1)
theorem OwnV.form {w : World} {B : Nat} {v : Value} {L : List Vl} (h : OwnV w B v L) : (v = .slice none 0 0 ∧ L = []) ∨ ∃ g cap, v = .slice (some ⟨g, 0, none⟩) L.length cap ∧ B ≤ g ∧ g < w.heap.size := by
  rcases h.2 with ⟨h1, h2⟩ | ⟨g, cap, cur, e, hb, hg, _⟩
  · exact .inl ⟨h1, List.eq_nil_of_length_eq_zero h2⟩
  · exact .inr ⟨g, cap, e, hb, (Array.getElem?_eq_some_iff.1 hg).1⟩
theorem vcells_cons (v : Vl) (L : List Vl) : vcells (v :: L) = .int .i64 v.k :: .int .i64 v.n :: .float .f64 v.f :: .string v.s :: vcells L := rfl
theorem vcells_set : ∀ (L : List Vl) (i : Nat) (r : Vl), i < L.length → vcells (L.set i r) = ((((vcells L).set (i * 4) (.int .i64 r.k)).set (i * 4 + 1) (.int .i64 r.n)).set (i * 4 + 2) (.float .f64 r.f)).set (i * 4 + 3) (.string r.s)
  | [], i, r, hi => by simp at hi
  | v :: L, 0, r, _ => rfl
  | v :: L, i + 1, r, hi => by
    have h := vcells_set L i r (by simpa using hi)
    have e : (i + 1) * 4 = i * 4 + 4 := by omega
    rw [List.set_cons_succ, vcells_cons, vcells_cons, e, h]
    rfl
theorem OwnV.set {w : World} {B g n cap : Nat} {L : List Vl} (h : OwnV w B (.slice (some ⟨g, 0, none⟩) n cap) L) (hn : L.length = n) (i : Nat) (hi : i < L.length) (r : Vl) :
    OwnV ((((w.setCell ⟨g, i * 4, none⟩ (.int .i64 r.k)).setCell ⟨g, i * 4 + 1, none⟩ (.int .i64 r.n)).setCell ⟨g, i * 4 + 2, none⟩ (.float .f64 r.f)).setCell ⟨g, i * 4 + 3, none⟩ (.string r.s)) B (.slice (some ⟨g, 0, none⟩) n cap) (L.set i r) := by
  subst hn
  have h' : w.ownsRow B 38 4 (.slice (some ⟨g, 0, none⟩) L.length cap) L.length (vcells L) := h
  have h3 := ((((h'.stored (i * 4) (.int .i64 r.k)).1.stored (i * 4 + 1) (.int .i64 r.n)).1.stored (i * 4 + 2) (.float .f64 r.f)).1.stored (i * 4 + 3) (.string r.s)).1
  unfold OwnV
  rw [List.length_set, vcells_set L i r hi]
  exact h3
theorem OwnV.at {w : World} {B g n cap : Nat} {L : List Vl} (h : OwnV w B (.slice (some ⟨g, 0, none⟩) n cap) L) (hn : L.length = n) (i : Nat) (hi : i < L.length) :
    (w.cell? ⟨g, i * 4, none⟩ = some (.int .i64 L[i].k) ∧ w.cell? ⟨g, i * 4 + 1, none⟩ = some (.int .i64 L[i].n) ∧ w.cell? ⟨g, i * 4 + 2, none⟩ = some (.float .f64 L[i].f) ∧ w.cell? ⟨g, i * 4 + 3, none⟩ = some (.string L[i].s)) ∧
    (w.frozen? ⟨g, i * 4, none⟩ = false ∧ w.frozen? ⟨g, i * 4 + 1, none⟩ = false ∧ w.frozen? ⟨g, i * 4 + 2, none⟩ = false ∧ w.frozen? ⟨g, i * 4 + 3, none⟩ = false) := by
  subst hn
  have h' : w.ownsRow B 38 4 (.slice (some ⟨g, 0, none⟩) L.length cap) L.length (vcells L) := h
  exact ⟨⟨(h'.cellAt (i * 4) (by omega)).trans (vcell_at L i hi 0 (by decide)), (h'.cellAt (i * 4 + 1) (by omega)).trans (vcell_at L i hi 1 (by decide)), (h'.cellAt (i * 4 + 2) (by omega)).trans (vcell_at L i hi 2 (by decide)), (h'.cellAt (i * 4 + 3) (by omega)).trans (vcell_at L i hi 3 (by decide))⟩, h'.frozenAt _, h'.frozenAt _, h'.frozenAt _, h'.frozenAt _⟩

end Go.Proofs.YthbjheiogghjnaaGreatDoor

namespace Go.Proofs.YthbjheiogghjnaaGreatDoor
open Go.RowKit
set_option maxRecDepth 100000

theorem info_int : (Tryz.prog.info? 3).map (fun i => (i.zero, i.size, i.bytes)) = some (some (.int .i64 0), 1, 8) := by kernel_rfl
theorem info_col : (Tryz.prog.info? 40).map (fun i => (i.zero, i.size, i.bytes)) = some (some (.agg #[.string ⟨#[]⟩, .int .i64 0, .bool false, .int .i64 0, .int .i64 0, .float .f64 0, .string ⟨#[]⟩]), 7, 72) := by kernel_rfl
theorem info_ix : (Tryz.prog.info? 44).map (fun i => (i.zero, i.size, i.bytes)) = some (some (.agg #[.string ⟨#[]⟩, .slice none 0 0, .bool false]), 3, 48) := by kernel_rfl
theorem info_rf : (Tryz.prog.info? 47).map (fun i => (i.zero, i.size, i.bytes)) = some (some (.agg #[.slice none 0 0, .string ⟨#[]⟩]), 2, 40) := by kernel_rfl

theorem owns_kept {w w' : World} {B e size n : Nat} {v : Value} {xs : List Value} (h : w.ownsRow B e size v n xs) (hb : Below w.heap.size w w') : w'.ownsRow B e size v n xs := by
  refine ⟨h.1, ?_⟩
  rcases h.2 with h1 | ⟨g, cap, cur, e, hb', hg, r⟩
  · exact .inl h1
  · exact .inr ⟨g, cap, cur, e, hb', (hb.block g (Array.getElem?_eq_some_iff.1 hg).1).trans hg, r⟩
/-- a row of another type stays where a row grows -/
theorem owns_other {w w' : World} {B B' e e' size size' n n' : Nat} {v v' : Value} {xs xs' : List Value} (h : w.ownsRow B e size v n xs) (h' : w.ownsRow B' e' size' v' n' xs') (hne : e ≠ e') (hg : w.grownBy w' v'.ownBlock) : w'.ownsRow B e size v n xs := by
  refine h.kept hg ?_
  rcases h.2 with ⟨rfl, _⟩ | ⟨g, cap, cur, rfl, _, hgc, _⟩
  · exact .inl rfl
  · refine .inr fun he => ?_
    rcases h'.2 with ⟨rfl, _⟩ | ⟨g', cap', cur', rfl, _, hgc', _⟩
    · simp [Value.ownBlock] at he
    · simp only [Value.ownBlock, Option.some.injEq] at he
      subst he
      rw [hgc] at hgc'
      injection hgc' with h1
      injection h1 with _ h2
      exact hne h2
theorem owns_base {w : World} {B C e size n : Nat} {v : Value} {xs : List Value} (h : w.ownsRow B e size v n xs) (hc : C ≤ B) : w.ownsRow C e size v n xs := by
  refine ⟨h.1, ?_⟩
  rcases h.2 with h1 | ⟨g, cap, cur, e, hb', r⟩
  · exact .inl h1
  · exact .inr ⟨g, cap, cur, e, Nat.le_trans hc hb', r⟩
theorem owns_len {w : World} {B e size n : Nat} {v : Value} {xs : List Value} (h : w.ownsRow B e size v n xs) : ∃ (p : Option Addr) (c : Nat), v = .slice p n c ∧ n ≤ c := by
  rcases h.2 with ⟨h1, rfl⟩ | ⟨g, cap, cur, e, _, _, hc, _⟩
  · exact ⟨none, 0, h1, Nat.le_refl _⟩
  · exact ⟨_, _, e, hc⟩
theorem owns_form {w : World} {B e size n : Nat} {v : Value} {xs : List Value} (h : w.ownsRow B e size v n xs) (hn : 0 < n) : ∃ g cap, v = .slice (some ⟨g, 0, none⟩) n cap ∧ B ≤ g ∧ g < w.heap.size := by
  rcases h.2 with ⟨_, h2⟩ | ⟨g, cap, cur, e, hb, hg, _⟩
  · omega
  · exact ⟨g, cap, e, hb, (Array.getElem?_eq_some_iff.1 hg).1⟩

/-- 'append(l, x)' -/
theorem wpList_appX1 {ops : Array Oper} {rest : List Oper} {o : Oper} {a : Act} {Q : Exit → Act → World → Prop} (w : World) (hgd : o.guard = none) (s x : Operand) (T S : TypeId) (z : Value) (size bytes : Nat)
    (ho : o.op = .call { callee := .builtin .append, args := #[s, x], argTypes := #[S, S] }) (hu : Tryz.prog.underlying S = some (.slice T))
    (hinfo : (Tryz.prog.info? T).map (fun i => (i.zero, i.size, i.bytes)) = some (some z, size, bytes)) (hzs : z.cells.size = size) (hsz : 0 < size)
    (B : Nat) (v : Value) (n : Nat) (xs : List Value) (hs : a.eval s = v) (hown : w.ownsRow B T size v n xs)
    (us : List Value) (hus : us.length = size) (hone : ∀ u ∈ us, u.oneCell' = true) (g : Nat) (hx : a.eval x = .slice (some ⟨g, 0, none⟩) 1 1) (hgz : g = w.heap.size)
    (hlen : (n + 1) * bytes ≤ 140737488355328) (hlen2 : n + 1 ≤ 140737488355328) (hbase : B ≤ w.heap.size)
    (h : ∀ v' w', w'.ownsRow B T size v' (n + 1) (xs ++ us) → Below B w w' → (w.alloc (.cells us.toArray T)).grownBy w' v.ownBlock → wpList Tryz.prog ops Q rest (a.put o.dst v') w') : wpList Tryz.prog ops Q (o :: rest) a (w.alloc (.cells us.toArray T)) := by
  obtain ⟨i, hi, hz0, hz1, hz2⟩ := info_parts1 hinfo
  subst hgz
  have hown' := hown.alloc (.cells us.toArray T)
  refine wpList_append_own _ hgd s x S ho B T i z size bytes hu hi hz0 hz1 hz2 hzs hsz v n xs hs hown' ⟨w.heap.size, 0, none⟩ 1 1 us hx (by omega) ?_ hone (by unfold maxLen; omega) hlen (by simp; omega) ?_
  · intro j y hj
    have e : (⟨w.heap.size, 0, none⟩ : Addr).add j = ⟨w.heap.size, j, none⟩ := by unfold Addr.add; split <;> simp_all
    rw [e, World.cell?_alloc_new]
    simpa using hj
  · intro v' w' h1 h2 _
    exact h v' w' h1 (((Below.refl _ _).alloc hbase _).grown h2 (by simp; omega) (fun k hk => (hown'.lt k hk).1)) h2

/-- a slice of numbers that the call owns -/
def OwnI (w : World) (B : Nat) (v : Value) (L : List Int) : Prop := w.ownsRow B 3 1 v L.length (L.map (.int .i64))
theorem OwnI.row {w : World} {B : Nat} {v : Value} {L : List Int} (h : OwnI w B v L) : ∃ (p : Option Addr) (c : Nat), v = .slice p L.length c ∧ L.length ≤ c ∧ RowI w w.heap.size p L := by
  have h0 := h
  rcases h.2 with ⟨h1, h2⟩ | ⟨g, cap, cur, e, hb, hg, hc, _⟩
  · have : L = [] := List.eq_nil_of_length_eq_zero h2
    subst this
    exact ⟨none, 0, h1, Nat.le_refl _, fun i hi => absurd hi (by simp)⟩
  · subst e
    refine ⟨_, cap, rfl, hc, fun i hi => ⟨g, 0, rfl, (Array.getElem?_eq_some_iff.1 hg).1, ?_⟩⟩
    have h1 := World.ownsRow.cellAt h0 i (by omega)
    rw [Nat.zero_add, h1, List.getElem?_map, List.getElem?_eq_getElem hi]
    rfl
/-- a cell of a row of things of 'size' cells -/
theorem flat_at {A : Type} (size : Nat) (f : A → List Value) (hf : ∀ x, (f x).length = size) (L : List A) (i : Nat) (hi : i < L.length) (t : Nat) (ht : t < size) : (L.flatMap f)[i * size + t]? = (f L[i])[t]? := by
  induction L generalizing i with
  | nil => simp at hi
  | cons v L ih =>
    have hl : (f v).length = size := hf v
    simp only [List.flatMap_cons]
    cases i with
    | zero => rw [Nat.zero_mul, Nat.zero_add, List.getElem?_append_left (by omega)]; rfl
    | succ i =>
      have e0 : (i + 1) * size = i * size + size := Nat.succ_mul i size
      rw [List.getElem?_append_right (by omega)]
      have e : (i + 1) * size + t - (f v).length = i * size + t := by omega
      rw [e]
      exact ih i (by simpa using hi)
def ccell (c : Cl) : List Value := [.string c.nm, .int .i64 c.kd, .bool c.nl, .int .i64 c.df.k, .int .i64 c.df.n, .float .f64 c.df.f, .string c.df.s]
def OwnC (w : World) (B : Nat) (v : Value) (L : List Cl) : Prop := w.ownsRow B 40 7 v L.length (L.flatMap ccell)
theorem OwnC.row {w : World} {B : Nat} {v : Value} {L : List Cl} (h : OwnC w B v L) : ∃ (p : Option Addr) (c : Nat), v = .slice p L.length c ∧ L.length ≤ c ∧ RowC w w.heap.size p L := by
  have h0 := h
  rcases h.2 with ⟨h1, h2⟩ | ⟨g, cap, cur, e, hb, hg, hc, _⟩
  · have : L = [] := List.eq_nil_of_length_eq_zero h2
    subst this
    exact ⟨none, 0, h1, Nat.le_refl _, fun i hi => absurd hi (by simp)⟩
  · subst e
    refine ⟨_, cap, rfl, hc, fun i hi => ⟨g, 0, rfl, (Array.getElem?_eq_some_iff.1 hg).1, ?_⟩⟩
    have k : ∀ t, t < 7 → w.cell? ⟨g, 0 + i * 7 + t, none⟩ = (ccell L[i])[t]? := by
      intro t ht
      have h1 := World.ownsRow.cellAt h0 (i * 7 + t) (by omega)
      rw [Nat.zero_add, h1, flat_at 7 ccell (fun _ => rfl) L i hi t ht]
    exact ⟨k 0 (by decide), k 1 (by decide), k 2 (by decide), k 3 (by decide), k 4 (by decide), k 5 (by decide), k 6 (by decide)⟩
/-- indexes beside the slices that they have -/
def xcell (z : Ix × Value) : List Value := [.string z.1.nm, z.2, .bool z.1.un]
def OwnX (w : World) (B : Nat) (v : Value) (Z : List (Ix × Value)) : Prop := w.ownsRow B 44 3 v Z.length (Z.flatMap xcell) ∧ ∀ z ∈ Z, OwnI w B z.2 z.1.cs
theorem OwnX.row {w : World} {B : Nat} {v : Value} {Z : List (Ix × Value)} {L : List Ix} (h : OwnX w B v Z) (hL : Z.map Prod.fst = L) : ∃ (p : Option Addr) (c : Nat), v = .slice p L.length c ∧ L.length ≤ c ∧ RowX w w.heap.size p L := by
  subst hL
  obtain ⟨h0, hin⟩ := h
  rcases h0.2 with ⟨h1, h2⟩ | ⟨g, cap, cur, e, hb, hg, hc, _⟩
  · have : Z = [] := List.eq_nil_of_length_eq_zero h2
    subst this
    exact ⟨none, 0, h1, Nat.le_refl _, fun i hi => absurd hi (by simp)⟩
  · subst e
    refine ⟨some ⟨g, 0, none⟩, cap, by simp, by simpa using hc, fun i hi => ⟨g, 0, rfl, (Array.getElem?_eq_some_iff.1 hg).1, ?_⟩⟩
    have hi' : i < Z.length := by simpa using hi
    have k : ∀ t, t < 3 → w.cell? ⟨g, 0 + i * 3 + t, none⟩ = (xcell Z[i])[t]? := by
      intro t ht
      have h1 := World.ownsRow.cellAt h0 (i * 3 + t) (by omega)
      rw [Nat.zero_add, h1, flat_at 3 xcell (fun _ => rfl) Z i hi' t ht]
    obtain ⟨q, c, ev, _, hr⟩ := (hin _ (List.getElem_mem hi')).row
    have e1 : (Z.map Prod.fst)[i] = Z[i].1 := by simp
    rw [e1]
    have k1 := k 1 (by decide)
    simp only [xcell, List.getElem?_cons_succ, List.getElem?_cons_zero, ev] at k1
    exact ⟨k 0 (by decide), ⟨q, c, k1, hr⟩, k 2 (by decide)⟩
def fcell (z : Rf × Value) : List Value := [z.2, .string z.1.tb]
def OwnF (w : World) (B : Nat) (v : Value) (Z : List (Rf × Value)) : Prop := w.ownsRow B 47 2 v Z.length (Z.flatMap fcell) ∧ ∀ z ∈ Z, OwnI w B z.2 z.1.cs
theorem OwnF.row {w : World} {B : Nat} {v : Value} {Z : List (Rf × Value)} {L : List Rf} (h : OwnF w B v Z) (hL : Z.map Prod.fst = L) : ∃ (p : Option Addr) (c : Nat), v = .slice p L.length c ∧ L.length ≤ c ∧ RowF w w.heap.size p L := by
  subst hL
  obtain ⟨h0, hin⟩ := h
  rcases h0.2 with ⟨h1, h2⟩ | ⟨g, cap, cur, e, hb, hg, hc, _⟩
  · have : Z = [] := List.eq_nil_of_length_eq_zero h2
    subst this
    exact ⟨none, 0, h1, Nat.le_refl _, fun i hi => absurd hi (by simp)⟩
  · subst e
    refine ⟨some ⟨g, 0, none⟩, cap, by simp, by simpa using hc, fun i hi => ⟨g, 0, rfl, (Array.getElem?_eq_some_iff.1 hg).1, ?_⟩⟩
    have hi' : i < Z.length := by simpa using hi
    have k : ∀ t, t < 2 → w.cell? ⟨g, 0 + i * 2 + t, none⟩ = (fcell Z[i])[t]? := by
      intro t ht
      have h1 := World.ownsRow.cellAt h0 (i * 2 + t) (by omega)
      rw [Nat.zero_add, h1, flat_at 2 fcell (fun _ => rfl) Z i hi' t ht]
    obtain ⟨q, c, ev, _, hr⟩ := (hin _ (List.getElem_mem hi')).row
    have e1 : (Z.map Prod.fst)[i] = Z[i].1 := by simp
    rw [e1]
    have k1 := k 0 (by decide)
    simp only [fcell, List.getElem?_cons_zero, ev] at k1
    exact ⟨⟨q, c, k1, hr⟩, k 1 (by decide)⟩

end Go.Proofs.YthbjheiogghjnaaGreatDoor
