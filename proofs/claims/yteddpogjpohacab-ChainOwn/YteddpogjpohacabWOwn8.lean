/- Versions and writes that a call owns. -/
import Derived.Test.YteddpogjpohacabWChn
namespace Go.Proofs.Yteddpogjpohacab
open Go.RowKit
set_option maxRecDepth 100000

theorem info_ver : (Try.prog.info? 31).map (fun i => (i.zero, i.size, i.bytes)) = some (some (.agg #[.int .u64 0, .bool false, .slice none 0 0]), 3, 40) := by kernel_rfl

theorem info_wri : (Try.prog.info? 40).map (fun i => (i.zero, i.size, i.bytes)) = some (some (.agg #[.int .i64 0, .bool false, .slice none 0 0]), 3, 40) := by kernel_rfl

/-- a slice of values -/
def SlV (w : World) (B : Nat) (v : Value) (L : List Vl) : Prop := ∃ q c, v = .slice q L.length c ∧ RowV w B q L ∧ (q = none → c = 0)
theorem SlV.keep {w w' : World} {B : Nat} {v : Value} {L : List Vl} (h : SlV w B v L) (hb : Below B w w') : SlV w' B v L := by
  obtain ⟨q, c, e, h1, h2⟩ := h
  exact ⟨q, c, e, h1.keep hb, h2⟩
theorem SlV.mono {w : World} {B C : Nat} {v : Value} {L : List Vl} (h : SlV w B v L) (hb : B ≤ C) : SlV w C v L := by
  obtain ⟨q, c, e, h1, h2⟩ := h
  exact ⟨q, c, e, h1.mono hb, h2⟩
theorem OwnV.sl {w : World} {B : Nat} {v : Value} {L : List Vl} (h : OwnV w B v L) : SlV w w.heap.size v L := by
  obtain ⟨p, c, e, hr⟩ := h.row
  refine ⟨p, c, e, hr, fun hp => ?_⟩
  rcases h.form with ⟨h1, _⟩ | ⟨g, cap, h1, _⟩
  · rw [h1] at e; injection e with _ _ e3; exact e3.symm
  · rw [h1] at e; injection e with e1; rw [hp] at e1; cases e1
theorem OwnV.base {w : World} {B C : Nat} {v : Value} {L : List Vl} (h : OwnV w B v L) (hc : C ≤ B) : OwnV w C v L := owns_base h hc

/-- a version or a write as cells, beside the slice that it has -/
def rcell (k : IntKind) (z : Rw × Value) : List Value := [.int k z.1.n, .bool z.1.gn, z.2]
def OwnRs (k : IntKind) (T : TypeId) (w : World) (B : Nat) (v : Value) (Z : List (Rw × Value)) : Prop := w.ownsRow B T 3 v Z.length (Z.flatMap (rcell k)) ∧ ∀ z ∈ Z, OwnV w B z.2 z.1.row
/-- versions that a call owns, whose rows lie elsewhere -/
def HasRs (k : IntKind) (T : TypeId) (w : World) (B : Nat) (v : Value) (Z : List (Rw × Value)) : Prop := w.ownsRow B T 3 v Z.length (Z.flatMap (rcell k)) ∧ ∀ z ∈ Z, SlV w B z.2 z.1.row
theorem rcells_rd {k : IntKind} {T : TypeId} {w : World} {B : Nat} {v : Value} {Z : List (Rw × Value)} {L : List Rw} (h0 : w.ownsRow B T 3 v Z.length (Z.flatMap (rcell k))) (hin : ∀ z ∈ Z, SlV w w.heap.size z.2 z.1.row) (hL : Z.map Prod.fst = L) : ∃ (p : Option Addr) (c : Nat), v = .slice p L.length c ∧ (p = none → c = 0) ∧ RdR k w w.heap.size p L := by
  subst hL
  rcases h0.2 with ⟨h1, h2⟩ | ⟨g, cap, cur, e, hb, hg, hc, _⟩
  · have : Z = [] := List.eq_nil_of_length_eq_zero h2
    subst this
    exact ⟨none, 0, h1, fun _ => rfl, fun i hi => absurd hi (by simp)⟩
  · subst e
    refine ⟨some ⟨g, 0, none⟩, cap, by simp, fun h => by simp at h, fun i hi => ?_⟩
    have hi' : i < Z.length := by simpa using hi
    have kk : ∀ t, t < 3 → w.cell? ⟨g, 0 + i * 3 + t, none⟩ = (rcell k Z[i])[t]? := by
      intro t ht
      have h1 := World.ownsRow.cellAt h0 (i * 3 + t) (by omega)
      rw [Nat.zero_add, h1, flat_at 3 (rcell k) (fun _ => rfl) Z i hi' t ht]
    obtain ⟨q, c, ev, hr, hq⟩ := hin _ (List.getElem_mem hi')
    have e1 : (Z.map Prod.fst)[i] = Z[i].1 := by simp
    rw [e1]
    have k1 := kk 2 (by decide)
    simp only [rcell, List.getElem?_cons_succ, List.getElem?_cons_zero, ev] at k1
    exact ⟨g, 0, q, c, rfl, (Array.getElem?_eq_some_iff.1 hg).1, kk 0 (by decide), kk 1 (by decide), k1, hr, hq⟩
theorem OwnRs.rd {k : IntKind} {T : TypeId} {w : World} {B : Nat} {v : Value} {Z : List (Rw × Value)} {L : List Rw} (h : OwnRs k T w B v Z) (hL : Z.map Prod.fst = L) : ∃ (p : Option Addr) (c : Nat), v = .slice p L.length c ∧ (p = none → c = 0) ∧ RdR k w w.heap.size p L :=
  rcells_rd h.1 (fun z hz => (h.2 z hz).sl) hL
theorem HasRs.rd {k : IntKind} {T : TypeId} {w : World} {B : Nat} {v : Value} {Z : List (Rw × Value)} {L : List Rw} (h : HasRs k T w B v Z) (hB : B ≤ w.heap.size) (hL : Z.map Prod.fst = L) : ∃ (p : Option Addr) (c : Nat), v = .slice p L.length c ∧ (p = none → c = 0) ∧ RdR k w w.heap.size p L :=
  rcells_rd h.1 (fun z hz => (h.2 z hz).mono hB) hL
theorem OwnRs.kept {k : IntKind} {T : TypeId} {w w' : World} {B : Nat} {v : Value} {Z : List (Rw × Value)} (h : OwnRs k T w B v Z) (hb : Below w.heap.size w w') : OwnRs k T w' B v Z :=
  ⟨owns_kept h.1 hb, fun z hz => (h.2 z hz).kept hb⟩
theorem HasRs.kept {k : IntKind} {T : TypeId} {w w' : World} {B : Nat} {v : Value} {Z : List (Rw × Value)} (h : HasRs k T w B v Z) (hb : Below w.heap.size w w') (hB : B ≤ w.heap.size) : HasRs k T w' B v Z :=
  ⟨owns_kept h.1 hb, fun z hz => (h.2 z hz).keep (hb.mono hB)⟩
theorem OwnRs.nil (k : IntKind) (T : TypeId) (w : World) (B : Nat) : OwnRs k T w B (.slice none 0 0) [] := ⟨World.ownsRow_nil w B _ _, fun z hz => by simp at hz⟩
theorem HasRs.nil (k : IntKind) (T : TypeId) (w : World) (B : Nat) : HasRs k T w B (.slice none 0 0) [] := ⟨World.ownsRow_nil w B _ _, fun z hz => by simp at hz⟩
theorem OwnRs.base {k : IntKind} {T : TypeId} {w : World} {B C : Nat} {v : Value} {Z : List (Rw × Value)} (h : OwnRs k T w B v Z) (hc : C ≤ B) : OwnRs k T w C v Z := ⟨owns_base h.1 hc, fun z hz => (h.2 z hz).base hc⟩
theorem OwnRs.app {k : IntKind} {T : TypeId} {w w' : World} {B : Nat} {v v' : Value} {Z : List (Rw × Value)} {z : Rw × Value} (h : OwnRs k T w B v Z) (hz : OwnV w B z.2 z.1.row) (hT : 69 ≠ T)
    (h1 : w'.ownsRow B T 3 v' (Z.length + 1) (Z.flatMap (rcell k) ++ rcell k z)) (hg : (w.alloc (.cells (rcell k z).toArray T)).grownBy w' v.ownBlock) : OwnRs k T w' B v' (Z ++ [z]) := by
  have hb : Below w.heap.size w (w.alloc (.cells (rcell k z).toArray T)) := (Below.refl _ _).alloc (Nat.le_refl _) _
  have h' : OwnRs k T (w.alloc (.cells (rcell k z).toArray T)) B v Z := h.kept hb
  refine ⟨by rw [List.length_append, List.flatMap_append]; simpa using h1, fun y hy => ?_⟩
  have hy' : OwnV (w.alloc (.cells (rcell k z).toArray T)) B y.2 y.1.row := by
    rcases List.mem_append.1 hy with hy | hy
    · exact h'.2 y hy
    · rw [List.mem_singleton] at hy
      subst hy
      exact hz.kept hb
  exact owns_other hy' h'.1 hT hg
theorem HasRs.app {k : IntKind} {T : TypeId} {w w' : World} {B : Nat} {v v' : Value} {Z : List (Rw × Value)} {z : Rw × Value} (h : HasRs k T w B v Z) (hz : SlV w B z.2 z.1.row) 
    (h1 : w'.ownsRow B T 3 v' (Z.length + 1) (Z.flatMap (rcell k) ++ rcell k z)) (hb : Below B w w') : HasRs k T w' B v' (Z ++ [z]) := by
  refine ⟨by rw [List.length_append, List.flatMap_append]; simpa using h1, fun y hy => ?_⟩
  rcases List.mem_append.1 hy with hy | hy
  · exact (h.2 y hy).keep hb
  · rw [List.mem_singleton] at hy
    subst hy
    exact hz.keep hb
theorem rcell_one (k : IntKind) (z : Rw × Value) (hz : z.2.oneCell' = true) : ∀ u ∈ rcell k z, u.oneCell' = true := by
  intro u hu
  simp only [rcell, List.mem_cons, List.not_mem_nil, or_false] at hu
  rcases hu with rfl | rfl | rfl
  · rfl
  · rfl
  · exact hz
theorem SlV.one {w : World} {B : Nat} {v : Value} {L : List Vl} (h : SlV w B v L) : v.oneCell' = true := by
  obtain ⟨q, c, rfl, _⟩ := h
  rfl

theorem RowV.cells {w : World} {B b o : Nat} {L : List Vl} (h : RowV w B (some ⟨b, o, none⟩) L) : ∀ j y, (vcells L)[j]? = some y → w.cell? ((⟨b, o, none⟩ : Addr).add j) = some y := by
  intro j y hj
  have hl : j < L.length * 4 := by have := (List.getElem?_eq_some_iff.1 hj).1; rw [vcells_len] at this; exact this
  have e : (⟨b, o, none⟩ : Addr).add j = ⟨b, o + j, none⟩ := by unfold Addr.add; split <;> simp_all
  rw [e]
  have hi : j / 4 < L.length := by omega
  obtain ⟨b', o', e', _, c0, c1, c2, c3⟩ := h (j / 4) hi
  injection e' with e'
  injection e' with e1 e2
  subst e1 e2
  have h4 : j % 4 = 0 ∨ j % 4 = 1 ∨ j % 4 = 2 ∨ j % 4 = 3 := by omega
  rcases h4 with e | e | e | e
  · have ej : j = j / 4 * 4 + 0 := by omega
    rw [ej, vcell_at L _ hi 0 (by decide)] at hj
    rw [show o + j = o + j / 4 * 4 by omega, c0]
    exact hj
  · have ej : j = j / 4 * 4 + 1 := by omega
    rw [ej, vcell_at L _ hi 1 (by decide)] at hj
    rw [show o + j = o + j / 4 * 4 + 1 by omega, c1]
    exact hj
  · have ej : j = j / 4 * 4 + 2 := by omega
    rw [ej, vcell_at L _ hi 2 (by decide)] at hj
    rw [show o + j = o + j / 4 * 4 + 2 by omega, c2]
    exact hj
  · have ej : j = j / 4 * 4 + 3 := by omega
    rw [ej, vcell_at L _ hi 3 (by decide)] at hj
    rw [show o + j = o + j / 4 * 4 + 3 by omega, c3]
    exact hj
theorem vcells_one (L : List Vl) : ∀ y ∈ vcells L, y.oneCell' = true := by
  intro y hy
  simp only [vcells, List.mem_flatMap, vcell] at hy
  obtain ⟨r, _, h⟩ := hy
  simp at h
  rcases h with rfl | rfl | rfl | rfl <;> rfl

set_option maxHeartbeats 2000000 in
theorem ownRow_any (L : List Vl) (v : Value) (w : World) (hR : SlV w w.heap.size v L) (hlen : L.length ≤ 3518437208780) :
    Calls Try.prog 32 #[v] w fun e w' => (∃ v', e = .returned v' ∧ OwnV w' w.heap.size v' L) ∧ Below w.heap.size w w' := by
  obtain ⟨p, c, rfl, hR, hpc⟩ := hR
  obtain ⟨i, hi, hz0, hz1, hz2⟩ := info_parts info_val
  cases p with
  | none =>
    obtain rfl := hpc rfl
    have hL : L = [] := by
      cases L with
      | nil => rfl
      | cons a x => obtain ⟨_, _, h, _⟩ := hR 0 (by simp); cases h
    subst hL
    go_enter Try.func32, Try.ntmps32
    go_wp2_with (first | (at_builtin; refine wpList_append_own_none rfl (.const (.slice none 0 0)) (.tmp 3) 29 rfl w.heap.size 69 i 4 Try.underlying29 hi _ 0 [] rfl (World.ownsRow_nil w _ _ _) rfl ?_))
    go_ret
    exact ⟨⟨_, rfl, OwnV.nil _ _⟩, Below.refl _ _⟩
  | some ad =>
    obtain ⟨b, o, sp⟩ := ad
    cases sp with
    | some _ =>
      have hL : L = [] := by
        cases L with
        | nil => rfl
        | cons a x => obtain ⟨_, _, h, _⟩ := hR 0 (by simp); cases h
      subst hL
      go_enter Try.func32, Try.ntmps32
      go_wp2_with (first | (at_builtin; refine wpList_append_own _ rfl (.const (.slice none 0 0)) (.tmp 3) 29 rfl w.heap.size 69 i (.agg #[.int .i64 0, .int .i64 0, .float .f64 0, .string ⟨#[]⟩]) 4 40 Try.underlying29 hi hz0 hz1 hz2 rfl (by decide) _ 0 [] rfl (World.ownsRow_nil w _ _ _) _ 0 c [] rfl rfl (fun j y hj => by simp at hj) (fun y hy => by simp at hy) (by unfold maxLen; omega) (by omega) (Nat.le_refl _) ?_))
      intro v1 w1 h1' h2 h9
      have hown : OwnV w1 w.heap.size v1 [] := by
        unfold OwnV
        simpa [vcells] using h1'
      have hb : Below w.heap.size w w1 := (Below.refl _ _).grown h2 (Nat.le_refl _) (fun k hk => by simp [Value.ownBlock] at hk)
      clear h1' h2 h9
      go_wp2
      go_ret
      exact ⟨⟨_, rfl, hown⟩, hb⟩
    | none =>
      have HR : Hid (RowV _ _ _ _) := hR
      clear hR
      go_enter Try.func32, Try.ntmps32
      go_wp2_with (first | (at_builtin; refine wpList_append_own _ rfl (.const (.slice none 0 0)) (.tmp 3) 29 rfl w.heap.size 69 i (.agg #[.int .i64 0, .int .i64 0, .float .f64 0, .string ⟨#[]⟩]) 4 40 Try.underlying29 hi hz0 hz1 hz2 rfl (by decide) _ 0 [] rfl (World.ownsRow_nil w _ _ _) ⟨b, o, none⟩ L.length c (vcells L) rfl (vcells_len L) HR.out.cells (vcells_one L) (by unfold maxLen; omega) (by omega) (Nat.le_refl _) ?_))
      intro v1 w1 h1' h2 h9
      have hown : OwnV w1 w.heap.size v1 L := by
        unfold OwnV
        simpa using h1'
      have hb : Below w.heap.size w w1 := (Below.refl _ _).grown h2 (Nat.le_refl _) (fun k hk => by simp [Value.ownBlock] at hk)
      clear h1' h2 h9
      go_wp2
      go_ret
      exact ⟨⟨_, rfl, hown⟩, hb⟩
end Go.Proofs.Yteddpogjpohacab
