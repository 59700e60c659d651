/- One element put behind a row that the call owns, whatever its type; numbers, columns, indexes, references. -/
import Derived.Test.YtobgdjjicgiefaaGreatDoorWOwnV
namespace Go.Proofs.YtobgdjjicgiefaaGreatDoor
open Go.RowKit
set_option maxRecDepth 100000

theorem info_int : (Tryz.prog.info? 3).map (fun i => (i.zero, i.size, i.bytes)) = some (some (.int .i64 0), 1, 8) := by kernel_rfl
theorem info_col : (Tryz.prog.info? 64).map (fun i => (i.zero, i.size, i.bytes)) = some (some (.agg #[.string ⟨#[]⟩, .int .i64 0, .bool false, .int .i64 0, .int .i64 0, .float .f64 0, .string ⟨#[]⟩]), 7, 72) := by kernel_rfl
theorem info_ix : (Tryz.prog.info? 66).map (fun i => (i.zero, i.size, i.bytes)) = some (some (.agg #[.string ⟨#[]⟩, .slice none 0 0, .bool false]), 3, 48) := by kernel_rfl
theorem info_rf : (Tryz.prog.info? 60).map (fun i => (i.zero, i.size, i.bytes)) = some (some (.agg #[.slice none 0 0, .string ⟨#[]⟩]), 2, 40) := by kernel_rfl

theorem owns_kept {w w' : World} {B e size n : Nat} {v : Value} {xs : List Value} (h : w.ownsRow B e size v n xs) (hb : Below w.heap.size w w') : w'.ownsRow B e size v n xs := by
  refine ⟨h.1, ?_⟩
  rcases h.2 with h1 | ⟨g, cap, cur, e, hb', hg, r⟩
  · exact .inl h1
  · exact .inr ⟨g, cap, cur, e, hb', (hb.block g (Array.getElem?_eq_some_iff.1 hg).1).trans hg, r⟩
/-- a row of another type stays where a row grows -/
theorem owns_other {w w' : World} {B B' e e' size size' n n' : Nat} {v v' : Value} {xs xs' : List Value} (h : w.ownsRow B e size v n xs) (h' : w.ownsRow B' e' size' v' n' xs') (hne : e ≠ e') (hg : w.grownBy w' v'.ownBlock) : w'.ownsRow B e size v n xs := by
  refine h.kept hg ?_
  rcases h.2 with ⟨rfl, _⟩ | ⟨g, cap, cur, rfl, _, hgc, _⟩
  · exact .inl rfl
  · refine .inr fun he => ?_
    rcases h'.2 with ⟨rfl, _⟩ | ⟨g', cap', cur', rfl, _, hgc', _⟩
    · simp [Value.ownBlock] at he
    · simp only [Value.ownBlock, Option.some.injEq] at he
      subst he
      rw [hgc] at hgc'
      injection hgc' with h1
      injection h1 with _ h2
      exact hne h2
theorem owns_base {w : World} {B C e size n : Nat} {v : Value} {xs : List Value} (h : w.ownsRow B e size v n xs) (hc : C ≤ B) : w.ownsRow C e size v n xs := by
  refine ⟨h.1, ?_⟩
  rcases h.2 with h1 | ⟨g, cap, cur, e, hb', r⟩
  · exact .inl h1
  · exact .inr ⟨g, cap, cur, e, Nat.le_trans hc hb', r⟩
theorem owns_len {w : World} {B e size n : Nat} {v : Value} {xs : List Value} (h : w.ownsRow B e size v n xs) : ∃ (p : Option Addr) (c : Nat), v = .slice p n c ∧ n ≤ c := by
  rcases h.2 with ⟨h1, rfl⟩ | ⟨g, cap, cur, e, _, _, hc, _⟩
  · exact ⟨none, 0, h1, Nat.le_refl _⟩
  · exact ⟨_, _, e, hc⟩
theorem owns_form {w : World} {B e size n : Nat} {v : Value} {xs : List Value} (h : w.ownsRow B e size v n xs) (hn : 0 < n) : ∃ g cap, v = .slice (some ⟨g, 0, none⟩) n cap ∧ B ≤ g ∧ g < w.heap.size := by
  rcases h.2 with ⟨_, h2⟩ | ⟨g, cap, cur, e, hb, hg, _⟩
  · omega
  · exact ⟨g, cap, e, hb, (Array.getElem?_eq_some_iff.1 hg).1⟩

/-- 'append(l, x)' -/
theorem wpList_app1 {ops : Array Oper} {rest : List Oper} {o : Oper} {a : Act} {Q : Exit → Act → World → Prop} (w : World) (hgd : o.guard = none) (s x : Operand) (T S : TypeId) (z : Value) (size bytes : Nat)
    (ho : o.op = .call { callee := .builtin .append, args := #[s, x], argTypes := #[S, S] }) (hu : Tryz.prog.underlying S = some (.slice T))
    (hinfo : (Tryz.prog.info? T).map (fun i => (i.zero, i.size, i.bytes)) = some (some z, size, bytes)) (hzs : z.cells.size = size) (hsz : 0 < size)
    (B : Nat) (v : Value) (n : Nat) (xs : List Value) (hs : a.eval s = v) (hown : w.ownsRow B T size v n xs)
    (us : List Value) (hus : us.length = size) (hone : ∀ u ∈ us, u.oneCell' = true) (g : Nat) (hx : a.eval x = .slice (some ⟨g, 0, none⟩) 1 1) (hgz : g = w.heap.size)
    (hlen : (n + 1) * bytes ≤ 140737488355328) (hlen2 : n + 1 ≤ 140737488355328) (hbase : B ≤ w.heap.size)
    (h : ∀ v' w', w'.ownsRow B T size v' (n + 1) (xs ++ us) → Below B w w' → (w.alloc (.cells us.toArray T)).grownBy w' v.ownBlock → wpList Tryz.prog ops Q rest (a.put o.dst v') w') : wpList Tryz.prog ops Q (o :: rest) a (w.alloc (.cells us.toArray T)) := by
  obtain ⟨i, hi, hz0, hz1, hz2⟩ := info_parts1 hinfo
  subst hgz
  have hown' := hown.alloc (.cells us.toArray T)
  refine wpList_append_own _ hgd s x S ho B T i z size bytes hu hi hz0 hz1 hz2 hzs hsz v n xs hs hown' ⟨w.heap.size, 0, none⟩ 1 1 us hx (by omega) ?_ hone (by unfold maxLen; omega) hlen (by simp; omega) ?_
  · intro j y hj
    have e : (⟨w.heap.size, 0, none⟩ : Addr).add j = ⟨w.heap.size, j, none⟩ := by unfold Addr.add; split <;> simp_all
    rw [e, World.cell?_alloc_new]
    simpa using hj
  · intro v' w' h1 h2 _
    exact h v' w' h1 (((Below.refl _ _).alloc hbase _).grown h2 (by simp; omega) (fun k hk => (hown'.lt k hk).1)) h2

/-- a slice of numbers that the call owns -/
def OwnI (w : World) (B : Nat) (v : Value) (L : List Int) : Prop := w.ownsRow B 3 1 v L.length (L.map (.int .i64))
theorem OwnI.row {w : World} {B : Nat} {v : Value} {L : List Int} (h : OwnI w B v L) : ∃ (p : Option Addr) (c : Nat), v = .slice p L.length c ∧ L.length ≤ c ∧ RowI w w.heap.size p L := by
  have h0 := h
  rcases h.2 with ⟨h1, h2⟩ | ⟨g, cap, cur, e, hb, hg, hc, _⟩
  · have : L = [] := List.eq_nil_of_length_eq_zero h2
    subst this
    exact ⟨none, 0, h1, Nat.le_refl _, fun i hi => absurd hi (by simp)⟩
  · subst e
    refine ⟨_, cap, rfl, hc, fun i hi => ⟨g, 0, rfl, (Array.getElem?_eq_some_iff.1 hg).1, ?_⟩⟩
    have h1 := World.ownsRow.cellAt h0 i (by omega)
    rw [Nat.zero_add, h1, List.getElem?_map, List.getElem?_eq_getElem hi]
    rfl
/-- a cell of a row of things of 'size' cells -/
theorem flat_at {A : Type} (size : Nat) (f : A → List Value) (hf : ∀ x, (f x).length = size) (L : List A) (i : Nat) (hi : i < L.length) (t : Nat) (ht : t < size) : (L.flatMap f)[i * size + t]? = (f L[i])[t]? := by
  induction L generalizing i with
  | nil => simp at hi
  | cons v L ih =>
    have hl : (f v).length = size := hf v
    simp only [List.flatMap_cons]
    cases i with
    | zero => rw [Nat.zero_mul, Nat.zero_add, List.getElem?_append_left (by omega)]; rfl
    | succ i =>
      have e0 : (i + 1) * size = i * size + size := Nat.succ_mul i size
      rw [List.getElem?_append_right (by omega)]
      have e : (i + 1) * size + t - (f v).length = i * size + t := by omega
      rw [e]
      exact ih i (by simpa using hi)
def ccell (c : Cl) : List Value := [.string c.nm, .int .i64 c.kd, .bool c.nl, .int .i64 c.df.k, .int .i64 c.df.n, .float .f64 c.df.f, .string c.df.s]
def OwnC (w : World) (B : Nat) (v : Value) (L : List Cl) : Prop := w.ownsRow B 64 7 v L.length (L.flatMap ccell)
theorem OwnC.row {w : World} {B : Nat} {v : Value} {L : List Cl} (h : OwnC w B v L) : ∃ (p : Option Addr) (c : Nat), v = .slice p L.length c ∧ L.length ≤ c ∧ RowC w w.heap.size p L := by
  have h0 := h
  rcases h.2 with ⟨h1, h2⟩ | ⟨g, cap, cur, e, hb, hg, hc, _⟩
  · have : L = [] := List.eq_nil_of_length_eq_zero h2
    subst this
    exact ⟨none, 0, h1, Nat.le_refl _, fun i hi => absurd hi (by simp)⟩
  · subst e
    refine ⟨_, cap, rfl, hc, fun i hi => ⟨g, 0, rfl, (Array.getElem?_eq_some_iff.1 hg).1, ?_⟩⟩
    have k : ∀ t, t < 7 → w.cell? ⟨g, 0 + i * 7 + t, none⟩ = (ccell L[i])[t]? := by
      intro t ht
      have h1 := World.ownsRow.cellAt h0 (i * 7 + t) (by omega)
      rw [Nat.zero_add, h1, flat_at 7 ccell (fun _ => rfl) L i hi t ht]
    exact ⟨k 0 (by decide), k 1 (by decide), k 2 (by decide), k 3 (by decide), k 4 (by decide), k 5 (by decide), k 6 (by decide)⟩
/-- indexes beside the slices that they have -/
def xcell (z : Ix × Value) : List Value := [.string z.1.nm, z.2, .bool z.1.un]
def OwnX (w : World) (B : Nat) (v : Value) (Z : List (Ix × Value)) : Prop := w.ownsRow B 66 3 v Z.length (Z.flatMap xcell) ∧ ∀ z ∈ Z, OwnI w B z.2 z.1.cs
theorem OwnX.row {w : World} {B : Nat} {v : Value} {Z : List (Ix × Value)} {L : List Ix} (h : OwnX w B v Z) (hL : Z.map Prod.fst = L) : ∃ (p : Option Addr) (c : Nat), v = .slice p L.length c ∧ L.length ≤ c ∧ RowX w w.heap.size p L := by
  subst hL
  obtain ⟨h0, hin⟩ := h
  rcases h0.2 with ⟨h1, h2⟩ | ⟨g, cap, cur, e, hb, hg, hc, _⟩
  · have : Z = [] := List.eq_nil_of_length_eq_zero h2
    subst this
    exact ⟨none, 0, h1, Nat.le_refl _, fun i hi => absurd hi (by simp)⟩
  · subst e
    refine ⟨some ⟨g, 0, none⟩, cap, by simp, by simpa using hc, fun i hi => ⟨g, 0, rfl, (Array.getElem?_eq_some_iff.1 hg).1, ?_⟩⟩
    have hi' : i < Z.length := by simpa using hi
    have k : ∀ t, t < 3 → w.cell? ⟨g, 0 + i * 3 + t, none⟩ = (xcell Z[i])[t]? := by
      intro t ht
      have h1 := World.ownsRow.cellAt h0 (i * 3 + t) (by omega)
      rw [Nat.zero_add, h1, flat_at 3 xcell (fun _ => rfl) Z i hi' t ht]
    obtain ⟨q, c, ev, _, hr⟩ := (hin _ (List.getElem_mem hi')).row
    have e1 : (Z.map Prod.fst)[i] = Z[i].1 := by simp
    rw [e1]
    have k1 := k 1 (by decide)
    simp only [xcell, List.getElem?_cons_succ, List.getElem?_cons_zero, ev] at k1
    exact ⟨k 0 (by decide), ⟨q, c, k1, hr⟩, k 2 (by decide)⟩
def fcell (z : Rf × Value) : List Value := [z.2, .string z.1.tb]
def OwnF (w : World) (B : Nat) (v : Value) (Z : List (Rf × Value)) : Prop := w.ownsRow B 60 2 v Z.length (Z.flatMap fcell) ∧ ∀ z ∈ Z, OwnI w B z.2 z.1.cs
theorem OwnF.row {w : World} {B : Nat} {v : Value} {Z : List (Rf × Value)} {L : List Rf} (h : OwnF w B v Z) (hL : Z.map Prod.fst = L) : ∃ (p : Option Addr) (c : Nat), v = .slice p L.length c ∧ L.length ≤ c ∧ RowF w w.heap.size p L := by
  subst hL
  obtain ⟨h0, hin⟩ := h
  rcases h0.2 with ⟨h1, h2⟩ | ⟨g, cap, cur, e, hb, hg, hc, _⟩
  · have : Z = [] := List.eq_nil_of_length_eq_zero h2
    subst this
    exact ⟨none, 0, h1, Nat.le_refl _, fun i hi => absurd hi (by simp)⟩
  · subst e
    refine ⟨some ⟨g, 0, none⟩, cap, by simp, by simpa using hc, fun i hi => ⟨g, 0, rfl, (Array.getElem?_eq_some_iff.1 hg).1, ?_⟩⟩
    have hi' : i < Z.length := by simpa using hi
    have k : ∀ t, t < 2 → w.cell? ⟨g, 0 + i * 2 + t, none⟩ = (fcell Z[i])[t]? := by
      intro t ht
      have h1 := World.ownsRow.cellAt h0 (i * 2 + t) (by omega)
      rw [Nat.zero_add, h1, flat_at 2 fcell (fun _ => rfl) Z i hi' t ht]
    obtain ⟨q, c, ev, _, hr⟩ := (hin _ (List.getElem_mem hi')).row
    have e1 : (Z.map Prod.fst)[i] = Z[i].1 := by simp
    rw [e1]
    have k1 := k 0 (by decide)
    simp only [fcell, List.getElem?_cons_zero, ev] at k1
    exact ⟨⟨q, c, k1, hr⟩, k 1 (by decide)⟩
end Go.Proofs.YtobgdjjicgiefaaGreatDoor
