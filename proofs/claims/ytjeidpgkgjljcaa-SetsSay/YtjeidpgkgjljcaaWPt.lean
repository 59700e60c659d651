/- Lists of points. -/
import Derived.Test.YtjeidpgkgjljcaaWV13
namespace Go.Proofs.Ytjeidpgkgjljcaa
open Go.Shelf Go.RowKit Go.Lib Go.Sort
set_option maxRecDepth 100000

structure Pt where
  t : Int
  i : Int
  k : ByteArray
  deriving DecidableEq


def encP (r : Pt) : List Value := [.int .i64 r.t, .int .i64 r.i, .string r.k]

theorem info_P : (Try.prog.info? 27).map (fun i => (i.zero, i.size, i.bytes)) = some (some (.agg #[.int .i64 0, .int .i64 0, .string ⟨#[]⟩]), 3, 32) := by kernel_rfl

def pcells (L : List Pt) : List Value := L.flatMap encP

theorem pcells_cons (r : Pt) (L : List Pt) : pcells (r :: L) = .int .i64 r.t :: .int .i64 r.i :: .string r.k :: pcells L := rfl

theorem pcells_len (L : List Pt) : (pcells L).length = L.length * 3 := by
  induction L with
  | nil => rfl
  | cons v L ih => rw [pcells_cons]; simp only [List.length_cons]; rw [ih]; omega

theorem pcells_append (a b : List Pt) : pcells (a ++ b) = pcells a ++ pcells b := by simp [pcells]

theorem pcells_at : ∀ (L : List Pt) (i : Nat) (hi : i < L.length), (pcells L)[i * 3]? = some (.int .i64 L[i].t) ∧ (pcells L)[i * 3 + 1]? = some (.int .i64 L[i].i) ∧ (pcells L)[i * 3 + 2]? = some (.string L[i].k)
  | [], i, hi => by simp at hi
  | r :: L, 0, _ => ⟨rfl, rfl, rfl⟩
  | r :: L, i + 1, hi => by
    have h := pcells_at L i (by simpa using hi)
    have e : (i + 1) * 3 = i * 3 + 3 := by omega
    rw [pcells_cons, e]
    exact h

theorem pcells_set : ∀ (L : List Pt) (i : Nat) (r : Pt), i < L.length → pcells (L.set i r) = (((pcells L).set (i * 3) (.int .i64 r.t)).set (i * 3 + 1) (.int .i64 r.i)).set (i * 3 + 2) (.string r.k)
  | [], i, r, hi => by simp at hi
  | v :: L, 0, r, _ => rfl
  | v :: L, i + 1, r, hi => by
    have h := pcells_set L i r (by simpa using hi)
    have e : (i + 1) * 3 = i * 3 + 3 := by omega
    rw [List.set_cons_succ, pcells_cons, pcells_cons, e, h]
    rfl

/-- the slice v owns these, in a block of number B or more -/
def OwnP (w : World) (B : Nat) (v : Value) (L : List Pt) : Prop := w.ownsRow B 27 3 v L.length (pcells L)

theorem OwnP.nil (w : World) (B : Nat) : OwnP w B (.slice none 0 0) [] := World.ownsRow_nil w B _ _

theorem OwnP.mono {w : World} {B C : Nat} {v : Value} {L : List Pt} (h : OwnP w B v L) (hb : C ≤ B) : OwnP w C v L := by
  refine ⟨h.1, ?_⟩
  rcases h.2 with h1 | ⟨g, cap, cur, e, hb', r⟩
  · exact .inl h1
  · exact .inr ⟨g, cap, cur, e, Nat.le_trans hb hb', r⟩

theorem OwnP.kept {w w' : World} {B : Nat} {v : Value} {L : List Pt} (h : OwnP w B v L) (hb : Below w.heap.size w w') : OwnP w' B v L := by
  refine ⟨h.1, ?_⟩
  rcases h.2 with h1 | ⟨g, cap, cur, e, hb', hg, r⟩
  · exact .inl h1
  · exact .inr ⟨g, cap, cur, e, hb', (hb.block g (Array.getElem?_eq_some_iff.1 hg).1).trans hg, r⟩

theorem OwnP.form {w : World} {B : Nat} {v : Value} {L : List Pt} (h : OwnP w B v L) : (v = .slice none 0 0 ∧ L = []) ∨ ∃ g cap, v = .slice (some ⟨g, 0, none⟩) L.length cap ∧ B ≤ g ∧ g < w.heap.size := by
  rcases h.2 with ⟨h1, h2⟩ | ⟨g, cap, cur, e, hb, hg, _⟩
  · exact .inl ⟨h1, List.eq_nil_of_length_eq_zero h2⟩
  · exact .inr ⟨g, cap, e, hb, (Array.getElem?_eq_some_iff.1 hg).1⟩

theorem OwnP.at {w : World} {B g cap : Nat} {L : List Pt} (h : OwnP w B (.slice (some ⟨g, 0, none⟩) L.length cap) L) (i : Nat) (hi : i < L.length) :
    (w.cell? ⟨g, i * 3, none⟩ = some (.int .i64 L[i].t) ∧ w.cell? ⟨g, i * 3 + 1, none⟩ = some (.int .i64 L[i].i) ∧ w.cell? ⟨g, i * 3 + 2, none⟩ = some (.string L[i].k)) ∧
    (w.frozen? ⟨g, i * 3, none⟩ = false ∧ w.frozen? ⟨g, i * 3 + 1, none⟩ = false ∧ w.frozen? ⟨g, i * 3 + 2, none⟩ = false) := by
  obtain ⟨a0, a1, a2⟩ := pcells_at L i hi
  have h' : w.ownsRow B 27 3 (.slice (some ⟨g, 0, none⟩) L.length cap) L.length (pcells L) := h
  exact ⟨⟨(h'.cellAt (i * 3) (by omega)).trans a0, (h'.cellAt (i * 3 + 1) (by omega)).trans a1, (h'.cellAt (i * 3 + 2) (by omega)).trans a2⟩, h'.frozenAt _, h'.frozenAt _, h'.frozenAt _⟩

/-- 's[i] = r' -/
theorem OwnP.set {w : World} {B g cap : Nat} {L : List Pt} (h : OwnP w B (.slice (some ⟨g, 0, none⟩) L.length cap) L) (i : Nat) (hi : i < L.length) (r : Pt) :
    OwnP ((((w).setCell ⟨g, i * 3, none⟩ (.int .i64 r.t)).setCell ⟨g, i * 3 + 1, none⟩ (.int .i64 r.i)).setCell ⟨g, i * 3 + 2, none⟩ (.string r.k)) B (.slice (some ⟨g, 0, none⟩) L.length cap) (L.set i r) := by
  have h' : w.ownsRow B 27 3 (.slice (some ⟨g, 0, none⟩) L.length cap) L.length (pcells L) := h
  have h3 := (((h'.stored (i * 3) (.int .i64 r.t)).1.stored (i * 3 + 1) (.int .i64 r.i)).1.stored (i * 3 + 2) (.string r.k)).1
  unfold OwnP
  rw [List.length_set, pcells_set L i r hi]
  exact h3

/-- 'append(l, r)' -/
theorem wpList_appP {ops : Array Oper} {rest : List Oper} {o : Oper} {a : Act} {Q : Exit → Act → World → Prop} (w : World) (hgd : o.guard = none) (s x : Operand)
    (ho : o.op = .call { callee := .builtin .append, args := #[s, x], argTypes := #[22, 22] })
    (B : Nat) (v : Value) (L : List Pt) (hs : a.eval s = v) (hown : OwnP w B v L)
    (u : Pt) (g : Nat) (hx : a.eval x = .slice (some ⟨g, 0, none⟩) 1 1) (hgz : g = w.heap.size)
    (hlen : L.length + 1 ≤ 4398046511104) (hbase : B ≤ w.heap.size)
    (h : ∀ v' w', OwnP w' B v' (L ++ [u]) → Below B w w' → wpList Try.prog ops Q rest (a.put o.dst v') w') : wpList Try.prog ops Q (o :: rest) a (w.alloc (.cells #[.int .i64 u.t, .int .i64 u.i, .string u.k] 27)) := by
  obtain ⟨i, hi, hz0, hz1, hz2⟩ := info_parts info_P
  subst hgz
  have hown' : OwnP (w.alloc (.cells #[.int .i64 u.t, .int .i64 u.i, .string u.k] 27)) B v L := hown.kept ((Below.refl _ _).alloc (Nat.le_refl _) _)
  refine wpList_append_own _ hgd s x 22 ho B 27 i (.agg #[.int .i64 0, .int .i64 0, .string ⟨#[]⟩]) 3 32 Try.underlying22 hi hz0 hz1 hz2 rfl (by decide) v L.length (pcells L) hs hown' ⟨w.heap.size, 0, none⟩ 1 1 (pcells [u]) hx rfl ?_ ?_ (by unfold maxLen; omega) (by omega) (by simp; omega) ?_
  · intro j y hj
    have hj' : j < 3 := by
      have := (List.getElem?_eq_some_iff.1 hj).1
      simpa [pcells, encP] using this
    have e : (⟨w.heap.size, 0, none⟩ : Addr).add j = ⟨w.heap.size, j, none⟩ := by unfold Addr.add; split <;> simp_all
    rw [e]
    have h4 : j = 0 ∨ j = 1 ∨ j = 2 := by omega
    rcases h4 with rfl | rfl | rfl <;> (simp [pcells, encP] at hj; subst hj; simp [go_sem])
  · intro y hy
    simp [pcells, encP] at hy
    rcases hy with rfl | rfl | rfl <;> rfl
  · intro v' w' h1 h2 _
    refine h v' w' ?_ ?_
    · unfold OwnP
      rw [pcells_append, List.length_append]
      exact h1
    · exact ((Below.refl _ _).alloc hbase _).grown h2 (by simp; omega) (fun k hk => (hown'.lt k hk).1)

/-- what is owned, in the sort's words -/
theorem OwnP.holds [Inhabited Pt] {w : World} {B g cap : Nat} {L : List Pt} (h : OwnP w B (.slice (some ⟨g, 0, none⟩) L.length cap) L) : HoldsK encP 3 w g 0 L.toArray := by
  intro j hj
  rw [size_flatK] at hj
  have hj' : j < L.length * 3 := by simpa using hj
  rw [get_flatK encP 3 L.toArray j hj, Nat.zero_add]
  have hi : j / 3 < L.length := by omega
  obtain ⟨⟨c0, c1, c2⟩, f0, f1, f2⟩ := h.at (j / 3) hi
  have eL : L.toArray[j / 3]! = L[j / 3] := by simp [getElem!_pos, hi]
  rw [eL]
  have h3 : j % 3 = 0 ∨ j % 3 = 1 ∨ j % 3 = 2 := by omega
  rcases h3 with e | e | e
  · have ej : j = j / 3 * 3 := by omega
    rw [e]
    rw [← ej] at c0 f0
    exact ⟨c0, f0⟩
  · have ej : j = j / 3 * 3 + 1 := by omega
    rw [e]
    rw [← ej] at c1 f1
    exact ⟨c1, f1⟩
  · have ej : j = j / 3 * 3 + 2 := by omega
    rw [e]
    rw [← ej] at c2 f2
    exact ⟨c2, f2⟩

/-- the slice at p holds these, in a block below B -/
def RowP (w : World) (B : Nat) (p : Option Addr) (L : List Pt) : Prop := ∀ i (hi : i < L.length), ∃ b o, p = some ⟨b, o, none⟩ ∧ b < B ∧
  w.cell? ⟨b, o + i * 3, none⟩ = some (.int .i64 L[i].t) ∧ w.cell? ⟨b, o + i * 3 + 1, none⟩ = some (.int .i64 L[i].i) ∧ w.cell? ⟨b, o + i * 3 + 2, none⟩ = some (.string L[i].k)

theorem RowP.keep {w w' : World} {B : Nat} {p : Option Addr} {L : List Pt} (h : RowP w B p L) (hb : Below B w w') : RowP w' B p L := by
  intro i hi
  obtain ⟨b, o, e, hbB, c0, c1, c2⟩ := h i hi
  have k : ∀ {o : Nat} {v : Option Value}, w.cell? ⟨b, o, none⟩ = v → w'.cell? ⟨b, o, none⟩ = v := fun {o v} hc => (hb.cell (p := ⟨b, o, none⟩) hbB).trans hc
  exact ⟨b, o, e, hbB, k c0, k c1, k c2⟩

theorem RowP.mono {w : World} {B C : Nat} {p : Option Addr} {L : List Pt} (h : RowP w B p L) (hb : B ≤ C) : RowP w C p L := by
  intro i hi
  obtain ⟨b, o, e, hbB, r⟩ := h i hi
  exact ⟨b, o, e, Nat.lt_of_lt_of_le hbB hb, r⟩

theorem RowP.on {w w' : World} {p : Option Addr} {L : List Pt} (h : RowP w w.heap.size p L) (hb : Below w.heap.size w w') : RowP w' w'.heap.size p L := (h.keep hb).mono hb.size

theorem OwnP.row {w : World} {B : Nat} {v : Value} {L : List Pt} (h : OwnP w B v L) : ∃ (p : Option Addr) (c : Nat), v = .slice p L.length c ∧ RowP w w.heap.size p L := by
  rcases h.form with ⟨rfl, rfl⟩ | ⟨g, cap, rfl, _, hg⟩
  · exact ⟨none, 0, rfl, fun i hi => absurd hi (by simp)⟩
  · refine ⟨_, cap, rfl, fun i hi => ?_⟩
    obtain ⟨⟨c0, c1, c2⟩, _⟩ := h.at i hi
    exact ⟨g, 0, rfl, hg, by rw [Nat.zero_add]; exact c0, by rw [Nat.zero_add]; exact c1, by rw [Nat.zero_add]; exact c2⟩

theorem pcells_get (L : List Pt) (j : Nat) (hj : j < L.length * 3) : (pcells L)[j]? = (encP (L[j / 3]'(by omega)))[j % 3]? := by
  have hi : j / 3 < L.length := by omega
  obtain ⟨a0, a1, a2⟩ := pcells_at L (j / 3) hi
  have h3 : j % 3 = 0 ∨ j % 3 = 1 ∨ j % 3 = 2 := by omega
  rcases h3 with e | e | e
  · have ej : j / 3 * 3 = j := by omega
    rw [e]; rw [ej] at a0; exact a0
  · have ej : j / 3 * 3 + 1 = j := by omega
    rw [e]; rw [ej] at a1; exact a1
  · have ej : j / 3 * 3 + 2 = j := by omega
    rw [e]; rw [ej] at a2; exact a2

theorem RowP.cells {w : World} {B b o : Nat} {L : List Pt} (h : RowP w B (some ⟨b, o, none⟩) L) : ∀ j y, (pcells L)[j]? = some y → w.cell? ((⟨b, o, none⟩ : Addr).add j) = some y := by
  intro j y hj
  have hl : j < L.length * 3 := by have := (List.getElem?_eq_some_iff.1 hj).1; rw [pcells_len] at this; exact this
  have e : (⟨b, o, none⟩ : Addr).add j = ⟨b, o + j, none⟩ := by unfold Addr.add; split <;> simp_all
  rw [e]
  obtain ⟨b', o', e', _, c0, c1, c2⟩ := h (j / 3) (by omega)
  injection e' with e'
  injection e' with e1 e2
  subst e1 e2
  rw [pcells_get L j hl] at hj
  have h3 : j % 3 = 0 ∨ j % 3 = 1 ∨ j % 3 = 2 := by omega
  rcases h3 with e | e | e
  · have ej : o + j = o + j / 3 * 3 := by omega
    rw [e] at hj; rw [ej, c0]; exact hj
  · have ej : o + j = o + j / 3 * 3 + 1 := by omega
    rw [e] at hj; rw [ej, c1]; exact hj
  · have ej : o + j = o + j / 3 * 3 + 2 := by omega
    rw [e] at hj; rw [ej, c2]; exact hj

theorem pcells_one (L : List Pt) : ∀ y ∈ pcells L, y.oneCell' = true := by
  intro y hy
  simp only [pcells, List.mem_flatMap, encP] at hy
  obtain ⟨r, _, h⟩ := hy
  simp at h
  rcases h with rfl | rfl | rfl <;> rfl

theorem RowP.cellsA {w : World} {B : Nat} {a : Addr} {L : List Pt} (h : RowP w B (some a) L) : ∀ j y, (pcells L)[j]? = some y → w.cell? (a.add j) = some y := by
  match L, h with
  | [], _ => intro j y hj; simp [pcells] at hj
  | r :: L, h =>
    obtain ⟨b, o, e, _⟩ := h 0 (by simp)
    injection e with e
    subst e
    exact h.cells

set_option maxHeartbeats 2000000 in
theorem cloneP_any (L : List Pt) (a : Addr) (c : Nat) (w : World) (hR : RowP w w.heap.size (some a) L) (hlen : L.length ≤ 4398046511104) (_hc : L.length ≤ c) :
    Calls Try.prog 54 #[.slice (some a) L.length c] w fun e w' => ∃ v, e = .returned v ∧ OwnP w' w.heap.size v L ∧ (¬ v = .slice none 0 0) ∧ Below w.heap.size w w' := by
  have HR : Hid (RowP _ _ _ _) := hR
  clear hR
  go_enter Try.func54, Try.ntmps54
  have hnil := fun w1 : World => Lib.run_eql_slice_nil (P := Try.prog) w1 22 27 (some a) L.length c 0 0 Try.underlying22
  simp only [Option.isNone_some] at hnil
  obtain ⟨i, hi, hz0, hz1, hz2⟩ := info_parts info_P
  go_wp2_with (first | (at_builtin; refine wpList_append_own _ rfl (.tmp 5) (.tmp 6) 22 rfl w.heap.size 27 i (.agg #[.int .i64 0, .int .i64 0, .string ⟨#[]⟩]) 3 32 Try.underlying22 hi hz0 hz1 hz2 rfl (by decide) _ 0 [] rfl ?own a L.length c (pcells L) rfl (pcells_len L) ?cells (pcells_one L) ?mx ?byt ?base ?_))
  case own => exact World.ownsRow_lit w #[] 0 (Nat.le_refl _) (Nat.zero_le _) rfl
  case cells => exact (HR.out.keep ((Below.refl _ _).alloc (Nat.le_refl _) _)).cellsA
  case mx => unfold maxLen; omega
  case byt => omega
  case base => simp
  intro v1 w1 h1 h2 h9
  have hnn : ¬ v1 = .slice none 0 0 := h9
  have hown : OwnP w1 w.heap.size v1 L := by
    unfold OwnP
    simpa using h1
  have hb : Below w.heap.size w w1 := ((Below.refl _ _).alloc (Nat.le_refl _) _).grown h2 (by simp) (fun k hk => by simp [Value.ownBlock] at hk; omega)
  clear h1 h2 h9
  have HN : Hid (¬ v1 = .slice none 0 0) := hnn
  clear hnn
  go_wp2
  go_ret
  exact ⟨_, rfl, hown, HN.out, hb⟩

theorem clonePN_any (w : World) : Calls Try.prog 54 #[.slice none 0 0] w fun e w' => e = .returned (.slice none 0 0) ∧ Below w.heap.size w w' := by
  have hnil := fun w1 : World => Lib.run_eql_slice_nil (P := Try.prog) w1 22 27 none 0 0 0 0 Try.underlying22
  simp only [Option.isNone_none] at hnil
  go_enter Try.func54, Try.ntmps54
  go_wp2
  go_ret
  exact ⟨rfl, Below.refl _ _⟩

theorem pcells_take (L : List Pt) (k : Nat) : pcells (L.take k) = (pcells L).take (k * 3) := by
  induction L generalizing k with
  | nil => simp [pcells]
  | cons r L ih =>
    cases k with
    | zero => simp [pcells]
    | succ k =>
      have e : (k + 1) * 3 = k * 3 + 1 + 1 + 1 := by omega
      rw [List.take_succ_cons, pcells_cons, pcells_cons, e, List.take_succ_cons, List.take_succ_cons, List.take_succ_cons, ih]

/-- the row cut to its first ones, whatever is laid behind them -/
theorem OwnP.cut {w : World} {B g cap n : Nat} {M : List Pt} (h : OwnP w B (.slice (some ⟨g, 0, none⟩) n cap) M) (hn : n = M.length) (k : Nat) (hk : k ≤ n) (vs : List Value) :
    OwnP (w.setCells g (k * 3) vs) B (.slice (some ⟨g, 0, none⟩) k cap) (M.take k) := by
  have hl : (M.take k).length = k := by rw [List.length_take]; omega
  rcases h.2 with ⟨h1, _⟩ | ⟨g', cap', cur, e, hb, hg, hn1, hm, hs, ht⟩
  · cases h1
  · injection e with e1 e2 e3
    injection e1 with e1
    injection e1 with e1
    subst e1 e3
    obtain ⟨cur', c1, c2, c3⟩ := setCells_row g 27 vs (k * 3) w cur hg
    refine ⟨by rw [pcells_len], .inr ⟨g, cap, cur', by rw [hl], hb, c1, by omega, hm, by rw [c2]; exact hs, ?_⟩⟩
    rw [hl, pcells_take, ← ht, List.take_take]
    have hmin : min (k * 3) (M.length * 3) = k * 3 := by omega
    rw [hmin]
    apply List.ext_getElem?
    intro j
    rw [List.getElem?_take, List.getElem?_take]
    split
    · rename_i hj
      rw [Array.getElem?_toList, Array.getElem?_toList, c3 j hj]
    · rfl

def zeroP (n : Nat) : List Value := (Builtin.zeroCells #[.int .i64 0, .int .i64 0, .string ⟨#[]⟩] n).toList

theorem zeroP_len (n : Nat) : (zeroP n).length = n * 3 := by simp [zeroP, Builtin.zeroCells]

theorem zeroP_one (n : Nat) : ∀ v ∈ zeroP n, v.oneCell' = true := by
  intro v hv
  simp [zeroP, Builtin.zeroCells] at hv
  obtain ⟨j, _, rfl⟩ := hv
  have h3 : j % 3 = 0 ∨ j % 3 = 1 ∨ j % 3 = 2 := by omega
  rcases h3 with e | e | e <;> simp [e] <;> rfl

theorem run_clearP (w : World) (ty : TypeId) (b o n c : Nat) (hn : 0 < n) (hc : ∀ j, j < n * 3 → (w.cell? ⟨b, o + j, none⟩).isSome = true) (hf : ∀ j, j < n * 3 → w.frozen? ⟨b, o + j, none⟩ = false) :
    (Builtin.clear_ #[22] ty #[.slice (some ⟨b, o, none⟩) n c]).run Try.prog w = .ok (.tuple #[]) (w.setCells b o (zeroP n)) := by
  have hst := run_storeCells_cells (P := Try.prog) b o (zeroP n) 0 w (by rw [zeroP_len]; simpa using hc) (by rw [zeroP_len]; simpa using hf) (zeroP_one n)
  simp only [Nat.add_zero] at hst
  obtain ⟨m, rfl⟩ : ∃ m, n = m + 1 := ⟨n - 1, by omega⟩
  have hz : (Value.agg #[.int .i64 0, .int .i64 0, .string ⟨#[]⟩]).cells = #[.int .i64 0, .int .i64 0, .string ⟨#[]⟩] := by first | rfl | kernel_rfl | simp [Value.cells]
  unfold zeroP at hst ⊢
  simp [Builtin.clear_, run_underlying Try.underlying22, hz, hst]

theorem OwnP.cap {w : World} {B g cap n : Nat} {L : List Pt} (h : OwnP w B (.slice (some ⟨g, 0, none⟩) n cap) L) : L.length ≤ cap ∧ cap ≤ maxLen ∧ B ≤ g ∧ g < w.heap.size := by
  rcases h.2 with ⟨h1, _⟩ | ⟨g', cap', cur, e, hb, hg, hn1, hm, hs, ht⟩
  · cases h1
  · injection e with e1 e2 e3
    injection e1 with e1
    injection e1 with e1
    subst e1 e3
    exact ⟨hn1, hm, hb, (Array.getElem?_eq_some_iff.1 hg).1⟩
end Go.Proofs.Ytjeidpgkgjljcaa
