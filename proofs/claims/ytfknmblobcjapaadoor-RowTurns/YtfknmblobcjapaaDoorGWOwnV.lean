/- Rows of values that a call owns. Rows of values that are copied, and rows of values held against each other. The walks of Column, on both sides. -/
import Derived.Laws.AppendOwnNone
import Derived.Laws.OwnMore
import Derived.Test.YtfknmblobcjapaaDoorGWRCheck
namespace Go.Proofs.YtfknmblobcjapaaDoor
open Go.RowKit
set_option maxRecDepth 100000

theorem info_val : (Tryd.prog.info? 44).map (fun i => (i.zero, i.size, i.bytes)) = some (some (.agg #[.int .i64 0, .int .i64 0, .float .f64 0, .string ⟨#[]⟩]), 4, 40) := by kernel_rfl
def vcell (v : Vl) : List Value := [.int .i64 v.k, .int .i64 v.n, .float .f64 v.f, .string v.s]
/-- values as cells -/
def vcells (L : List Vl) : List Value := L.flatMap vcell
theorem vcells_len (L : List Vl) : (vcells L).length = L.length * 4 := by
  induction L with
  | nil => rfl
  | cons v L ih => simp only [vcells, List.flatMap_cons, List.length_append, List.length_cons] at ih ⊢; rw [ih]; simp [vcell]; omega
theorem vcells_append (a b : List Vl) : vcells (a ++ b) = vcells a ++ vcells b := by simp [vcells]
/-- the slice v owns these values, in a block of number B or more -/
def OwnV (w : World) (B : Nat) (v : Value) (L : List Vl) : Prop := w.ownsRow B 44 4 v L.length (vcells L)
theorem OwnV.nil (w : World) (B : Nat) : OwnV w B (.slice none 0 0) [] := World.ownsRow_nil w B _ _
theorem OwnV.kept {w w' : World} {B : Nat} {v : Value} {L : List Vl} (h : OwnV w B v L) (hb : Below w.heap.size w w') : OwnV w' B v L := by
  refine ⟨h.1, ?_⟩
  rcases h.2 with h1 | ⟨g, cap, cur, e, hb', hg, r⟩
  · exact .inl h1
  · exact .inr ⟨g, cap, cur, e, hb', (hb.block g (Array.getElem?_eq_some_iff.1 hg).1).trans hg, r⟩
theorem vcell_at (L : List Vl) (i : Nat) (hi : i < L.length) (t : Nat) (ht : t < 4) : (vcells L)[i * 4 + t]? = (vcell L[i])[t]? := by
  induction L generalizing i with
  | nil => simp at hi
  | cons v L ih =>
    have hl : (vcell v).length = 4 := rfl
    simp only [vcells, List.flatMap_cons]
    cases i with
    | zero => rw [Nat.zero_mul, Nat.zero_add, List.getElem?_append_left (by omega)]; rfl
    | succ i =>
      rw [List.getElem?_append_right (by omega)]
      have e : (i + 1) * 4 + t - (vcell v).length = i * 4 + t := by omega
      rw [e]
      exact ih i (by simpa using hi)
/-- what is owned can be read as a list of values -/
theorem OwnV.row {w : World} {B : Nat} {v : Value} {L : List Vl} (h : OwnV w B v L) : ∃ (p : Option Addr) (c : Nat), v = .slice p L.length c ∧ RowV w w.heap.size p L := by
  rcases h.2 with ⟨h1, h2⟩ | ⟨g, cap, cur, e, hb, hg, hr⟩
  · have : L = [] := List.eq_nil_of_length_eq_zero h2
    subst this
    exact ⟨none, 0, h1, fun i hi => absurd hi (by simp)⟩
  · refine ⟨_, cap, e, fun i hi => ?_⟩
    subst e
    have hc : ∀ t, t < 4 → w.cell? ⟨g, i * 4 + t, none⟩ = (vcell L[i])[t]? := by
      intro t ht
      have := World.ownsRow.cellAt (w := w) (e := 44) (size := 4) (g := g) (cap := cap) h (i * 4 + t) (by omega)
      rw [this, vcell_at L i hi t ht]
    have h0 := hc 0 (by decide)
    have h1 := hc 1 (by decide)
    have h2 := hc 2 (by decide)
    have h3 := hc 3 (by decide)
    refine ⟨g, 0, rfl, (Array.getElem?_eq_some_iff.1 hg).1, ?_, ?_, ?_, ?_⟩
    · rw [Nat.zero_add]; exact h0
    · rw [Nat.zero_add]; exact h1
    · rw [Nat.zero_add]; exact h2
    · rw [Nat.zero_add]; exact h3

/-- 'append(l, v)' -/
theorem wpList_appV {ops : Array Oper} {rest : List Oper} {o : Oper} {a : Act} {Q : Exit → Act → World → Prop} (w : World) (hgd : o.guard = none) (s x : Operand)
    (ho : o.op = .call { callee := .builtin .append, args := #[s, x], argTypes := #[28, 28] })
    (B : Nat) (v : Value) (L : List Vl) (hs : a.eval s = v) (hown : OwnV w B v L)
    (u : Vl) (g : Nat) (hx : a.eval x = .slice (some ⟨g, 0, none⟩) 1 1) (hgz : g = w.heap.size)
    (hlen : L.length + 1 ≤ 3518437208883) (hbase : B ≤ w.heap.size)
    (h : ∀ v' w', OwnV w' B v' (L ++ [u]) → Below B w w' → wpList Tryd.prog ops Q rest (a.put o.dst v') w') : wpList Tryd.prog ops Q (o :: rest) a (w.alloc (.cells #[.int .i64 u.k, .int .i64 u.n, .float .f64 u.f, .string u.s] 44)) := by
  obtain ⟨i, hi, hz0, hz1, hz2⟩ := info_parts info_val
  subst hgz
  have hown' : OwnV (w.alloc (.cells #[.int .i64 u.k, .int .i64 u.n, .float .f64 u.f, .string u.s] 44)) B v L := hown.kept ((Below.refl _ _).alloc (Nat.le_refl _) _)
  refine wpList_append_own _ hgd s x 28 ho B 44 i (.agg #[.int .i64 0, .int .i64 0, .float .f64 0, .string ⟨#[]⟩]) 4 40 Tryd.underlying28 hi hz0 hz1 hz2 rfl (by decide) v L.length (vcells L) hs hown' ⟨w.heap.size, 0, none⟩ 1 1 (vcells [u]) hx rfl ?_ ?_ (by unfold maxLen; omega) (by omega) (by simp; omega) ?_
  · intro j y hj
    have hj' : j < 4 := by
      have := (List.getElem?_eq_some_iff.1 hj).1
      simpa [vcells, vcell] using this
    have e : (⟨w.heap.size, 0, none⟩ : Addr).add j = ⟨w.heap.size, j, none⟩ := by unfold Addr.add; split <;> simp_all
    rw [e]
    have h4 : j = 0 ∨ j = 1 ∨ j = 2 ∨ j = 3 := by omega
    rcases h4 with rfl | rfl | rfl | rfl <;> (simp [vcells, vcell] at hj; subst hj; simp [go_sem])
  · intro y hy
    simp [vcells, vcell] at hy
    rcases hy with rfl | rfl | rfl | rfl <;> rfl
  · intro v' w' h1 h2 _
    refine h v' w' ?_ ?_
    · unfold OwnV
      rw [vcells_append, List.length_append]
      exact h1
    · exact ((Below.refl _ _).alloc hbase _).grown h2 (by simp; omega) (fun k hk => (hown'.lt k hk).1)
theorem OwnV.form {w : World} {B : Nat} {v : Value} {L : List Vl} (h : OwnV w B v L) : (v = .slice none 0 0 ∧ L = []) ∨ ∃ g cap, v = .slice (some ⟨g, 0, none⟩) L.length cap ∧ B ≤ g ∧ g < w.heap.size := by
  rcases h.2 with ⟨h1, h2⟩ | ⟨g, cap, cur, e, hb, hg, _⟩
  · exact .inl ⟨h1, List.eq_nil_of_length_eq_zero h2⟩
  · exact .inr ⟨g, cap, e, hb, (Array.getElem?_eq_some_iff.1 hg).1⟩
theorem vcells_cons (v : Vl) (L : List Vl) : vcells (v :: L) = .int .i64 v.k :: .int .i64 v.n :: .float .f64 v.f :: .string v.s :: vcells L := rfl
theorem vcells_set : ∀ (L : List Vl) (i : Nat) (r : Vl), i < L.length → vcells (L.set i r) = ((((vcells L).set (i * 4) (.int .i64 r.k)).set (i * 4 + 1) (.int .i64 r.n)).set (i * 4 + 2) (.float .f64 r.f)).set (i * 4 + 3) (.string r.s)
  | [], i, r, hi => by simp at hi
  | v :: L, 0, r, _ => rfl
  | v :: L, i + 1, r, hi => by
    have h := vcells_set L i r (by simpa using hi)
    have e : (i + 1) * 4 = i * 4 + 4 := by omega
    rw [List.set_cons_succ, vcells_cons, vcells_cons, e, h]
    rfl
theorem OwnV.set {w : World} {B g n cap : Nat} {L : List Vl} (h : OwnV w B (.slice (some ⟨g, 0, none⟩) n cap) L) (hn : L.length = n) (i : Nat) (hi : i < L.length) (r : Vl) :
    OwnV ((((w.setCell ⟨g, i * 4, none⟩ (.int .i64 r.k)).setCell ⟨g, i * 4 + 1, none⟩ (.int .i64 r.n)).setCell ⟨g, i * 4 + 2, none⟩ (.float .f64 r.f)).setCell ⟨g, i * 4 + 3, none⟩ (.string r.s)) B (.slice (some ⟨g, 0, none⟩) n cap) (L.set i r) := by
  subst hn
  have h' : w.ownsRow B 44 4 (.slice (some ⟨g, 0, none⟩) L.length cap) L.length (vcells L) := h
  have h3 := ((((h'.stored (i * 4) (.int .i64 r.k)).1.stored (i * 4 + 1) (.int .i64 r.n)).1.stored (i * 4 + 2) (.float .f64 r.f)).1.stored (i * 4 + 3) (.string r.s)).1
  unfold OwnV
  rw [List.length_set, vcells_set L i r hi]
  exact h3
theorem OwnV.at {w : World} {B g n cap : Nat} {L : List Vl} (h : OwnV w B (.slice (some ⟨g, 0, none⟩) n cap) L) (hn : L.length = n) (i : Nat) (hi : i < L.length) :
    (w.cell? ⟨g, i * 4, none⟩ = some (.int .i64 L[i].k) ∧ w.cell? ⟨g, i * 4 + 1, none⟩ = some (.int .i64 L[i].n) ∧ w.cell? ⟨g, i * 4 + 2, none⟩ = some (.float .f64 L[i].f) ∧ w.cell? ⟨g, i * 4 + 3, none⟩ = some (.string L[i].s)) ∧
    (w.frozen? ⟨g, i * 4, none⟩ = false ∧ w.frozen? ⟨g, i * 4 + 1, none⟩ = false ∧ w.frozen? ⟨g, i * 4 + 2, none⟩ = false ∧ w.frozen? ⟨g, i * 4 + 3, none⟩ = false) := by
  subst hn
  have h' : w.ownsRow B 44 4 (.slice (some ⟨g, 0, none⟩) L.length cap) L.length (vcells L) := h
  exact ⟨⟨(h'.cellAt (i * 4) (by omega)).trans (vcell_at L i hi 0 (by decide)), (h'.cellAt (i * 4 + 1) (by omega)).trans (vcell_at L i hi 1 (by decide)), (h'.cellAt (i * 4 + 2) (by omega)).trans (vcell_at L i hi 2 (by decide)), (h'.cellAt (i * 4 + 3) (by omega)).trans (vcell_at L i hi 3 (by decide))⟩, h'.frozenAt _, h'.frozenAt _, h'.frozenAt _, h'.frozenAt _⟩

end Go.Proofs.YtfknmblobcjapaaDoor

namespace Go.Proofs.YtfknmblobcjapaaDoor
open Go.RowKit
set_option maxRecDepth 100000

set_option maxHeartbeats 2000000 in
theorem sameRow2 (L : List Vl) (p q : Option Addr) (c d : Nat) (w : World) (hA : RowV w w.heap.size p L) (hB : RowV w w.heap.size q L) (hlen : L.length ≤ 3518437208784) :
    Calls Tryd.prog 6 #[.slice p L.length c, .slice q L.length d] w fun e w' => e = .returned (.bool true) ∧ Below w.heap.size w w' := by
  have HA : Hid (RowV _ _ _ _ ∧ RowV _ _ _ _) := ⟨hA, hB⟩
  clear hA hB
  go_enter Tryd.func6, Tryd.ntmps6
  go_wp2_with fail
  go_loopw [5] (fun i wr => ∃ j : Nat, j ≤ L.length ∧ i = .int .i64 (j : Int) ∧ Below w.heap.size w wr) (fun i _ => L.length - (intOf i).toNat)
  case atStart => exact ⟨0, Nat.zero_le _, by go_num, Below.refl _ _⟩
  case round =>
    obtain ⟨j, hj, rfl, hn⟩ := hrel
    by_cases hj0 : j = L.length
    · subst hj0
      go_wp2
      go_ret
      exact ⟨rfl, hn⟩
    · have hj1 : j < L.length := by omega
      obtain ⟨b, o, rfl, hbB, c0, c1, c2, c3⟩ := HA.out.1 j hj1
      obtain ⟨bm, om, rfl, hbm, d0, d1, d2, d3⟩ := HA.out.2 j hj1
      have a0 := (hn.cell (p := ⟨b, o + j * 4, none⟩) hbB).trans c0
      have a1 := (hn.cell (p := ⟨b, o + j * 4 + 1, none⟩) hbB).trans c1
      have a2 := (hn.cell (p := ⟨b, o + j * 4 + 2, none⟩) hbB).trans c2
      have a3 := (hn.cell (p := ⟨b, o + j * 4 + 3, none⟩) hbB).trans c3
      have q0 := (hn.cell (p := ⟨bm, om + j * 4, none⟩) hbm).trans d0
      have q1 := (hn.cell (p := ⟨bm, om + j * 4 + 1, none⟩) hbm).trans d1
      have q2 := (hn.cell (p := ⟨bm, om + j * 4 + 2, none⟩) hbm).trans d2
      have q3 := (hn.cell (p := ⟨bm, om + j * 4 + 3, none⟩) hbm).trans d3
      have CS : Hid (∀ w1 : World, Calls Tryd.prog 15 #[.agg #[.int .i64 (L[j]).k, .int .i64 (L[j]).n, .float .f64 (L[j]).f, .string (L[j]).s], .agg #[.int .i64 (L[j]).k, .int .i64 (L[j]).n, .float .f64 (L[j]).f, .string (L[j]).s]] w1 fun e w' => e = .returned (.bool true) ∧ Below w1.heap.size w1 w') := fun w1 => by
        have h := rsame_any (L[j]).k (L[j]).n (L[j]).k (L[j]).n (L[j]).f (L[j]).f (L[j]).s (L[j]).s w1
        have e : sameB (L[j]).k (L[j]).n (L[j]).k (L[j]).n (L[j]).f (L[j]).f (L[j]).s (L[j]).s = true := by simp [sameB]
        rw [e] at h
        exact h
      clear c0 c1 c2 c3 d0 d1 d2 d3 hj0
      generalize (L[j]).k = k at *
      generalize (L[j]).n = n at *
      generalize (L[j]).f = f at *
      generalize (L[j]).s = t at *
      go_wp2_with fail
      go_region_with (first | (go_at_call 15; refine (CS.out _).mono ?_; rintro e w5 ⟨rfl, hb5⟩))
      all_goals (try go_wp2)
      all_goals go_roundw
      all_goals first
        | (exact ⟨j + 1, by omega, by go_num, hn.drew.trans (hb5.mono (by simpa using hn.size))⟩)
        | (simp [intOf]; omega)



end Go.Proofs.YtfknmblobcjapaaDoor

namespace Go.Proofs.YtfknmblobcjapaaDoor
open Go.RowKit
set_option maxRecDepth 100000

/-- a column's number, by its name -/
def colF (nm : ByteArray) : List Cl → Nat → Int × Int
  | [], _ => (0, 5)
  | c :: cs, k => if (c.nm.toList == nm.toList) = true then ((k : Int), 0) else colF nm cs (k + 1)
theorem colF_hit {nm : ByteArray} {cs : List Cl} {j : Nat} (hj : j < cs.length) (h : (cs[j].nm.toList == nm.toList) = true) : colF nm (cs.drop j) j = ((j : Int), 0) := by
  rw [List.drop_eq_getElem_cons hj, colF, if_pos h]
theorem colF_step {nm : ByteArray} {cs : List Cl} {j : Nat} (hj : j < cs.length) (h : (cs[j].nm.toList == nm.toList) = false) : colF nm (cs.drop j) j = colF nm (cs.drop (j + 1)) (j + 1) := by
  rw [List.drop_eq_getElem_cons hj, colF, if_neg (by rw [h]; simp)]
theorem colF_end {nm : ByteArray} {cs : List Cl} : colF nm (cs.drop cs.length) cs.length = (0, 5) := by
  rw [List.drop_length, colF]
theorem tupV {a b c d : Int} (h : (a, b) = (c, d)) : Ending.returned (.tuple #[.int .i64 a, .int .i64 b]) = Ending.returned (.tuple #[.int .i64 c, .int .i64 d]) := by
  injection h with h1 h2
  rw [h1, h2]





end Go.Proofs.YtfknmblobcjapaaDoor
