/- Rows of values: read, owned, held against one another. -/
import Derived.Test.YteddpogjpohacabMVl
import Derived.WalkKit
import Derived.WalkLawsBesides
import Derived.Deep.QuietTactic
import Derived.BigQuiet
import Derived.Deep.RegionHeld3
import Derived.Handy
import Derived.Deep.Light
import Derived.Laws.AppendOwnNone
import Derived.Laws.OwnMore
namespace Go.Proofs.Yteddpogjpohacab
open Go.RowKit Ieee
set_option maxRecDepth 100000

theorem boolV {a b : Bool} (h : a = b) : Ending.returned (.bool a) = Ending.returned (.bool b) := by rw [h]

theorem info_parts1 {T : TypeId} {z : Value} {s b : Nat} (h : (Try.prog.info? T).map (fun i => (i.zero, i.size, i.bytes)) = some (some z, s, b)) : ∃ i, Try.prog.info? T = some i ∧ i.zero = some z ∧ i.size = s ∧ i.bytes = b := by
  cases hi : Try.prog.info? T with
  | none => rw [hi] at h; cases h
  | some i =>
    rw [hi] at h
    simp only [Option.map_some, Option.some.injEq, Prod.mk.injEq] at h
    exact ⟨i, rfl, h.1, h.2.1, h.2.2⟩

/-- two values, bit by bit -/
def sameB (k n k' n' : Int) (f f' : Nat) (s s' : ByteArray) : Bool := (k == k') && ((n == n') && ((((f : Int)) == (f' : Int)) && (s.toList == s'.toList)))

theorem run_fbits (f : Nat) (w : World) : (callFunc 34 #[.float .f64 f]).run Try.prog w = .ok (.value (.int .u64 f)) w := by
  rw [run_callFunc_extern (fn := Try.f34) (e := Extern.MathFloatBits.float64bits) Try.func34 (by kernel_rfl) (by kernel_rfl) (by kernel_rfl) (by kernel_rfl)]
  rfl

theorem bcell {W w1 : World} (hb : Below W.heap.size W w1) : (∀ b o, b < W.heap.size → w1.cell? ⟨b, o, none⟩ = W.cell? ⟨b, o, none⟩) ∧ (∀ b o, b < W.heap.size → w1.frozen? ⟨b, o, none⟩ = W.frozen? ⟨b, o, none⟩) :=
  ⟨fun b o h => hb.cell (p := ⟨b, o, none⟩) h, fun b o h => hb.frozen (p := ⟨b, o, none⟩) h⟩

theorem rsame_any (k n k' n' : Int) (f f' : Nat) (s s' : ByteArray) (w : World) :
    Calls Try.prog 33 #[.agg #[.int .i64 k, .int .i64 n, .float .f64 f, .string s], .agg #[.int .i64 k', .int .i64 n', .float .f64 f', .string s']] w fun e w' => e = .returned (.bool (sameB k n k' n' f f' s s')) ∧ Below w.heap.size w w' := by
  have hb := run_fbits
  unfold sameB
  cases hk : (k == k')
  · go_enter Try.func33, Try.ntmps33
    go_wp2
    go_quiet (fail)
    go_wp2
    go_ret
    exact ⟨by simp, below_drewN (by go_grown) _⟩
  cases hn : (n == n')
  · go_enter Try.func33, Try.ntmps33
    go_wp2
    go_quiet (fail)
    go_wp2
    go_ret
    exact ⟨by simp, below_drewN (by go_grown) _⟩
  cases hf : ((f : Int) == (f' : Int))
  · go_enter Try.func33, Try.ntmps33
    go_wp2
    go_quiet (fail)
    go_wp2
    go_ret
    exact ⟨by simp, below_drewN (by go_grown) _⟩
  · go_enter Try.func33, Try.ntmps33
    go_wp2
    go_quiet (fail)
    go_wp2
    go_ret
    exact ⟨by simp, below_drewN (by go_grown) _⟩

theorem run_store_float (w : World) (a : Addr) (k : FloatKind) (b : Nat) (m : Mode) : (store a (.float k b) m).run Try.prog w = stored Try.prog w a (.float k b) m := run_store Try.prog w a _ m rfl

theorem old_cell {w w1 : World} {b o : Nat} {v : Option Value} (hb : Below w.heap.size w w1) (hg : b < w.heap.size) (hc : w.cell? ⟨b, o, none⟩ = v) : w1.cell? ⟨b, o, none⟩ = v :=
  (hb.cell (p := ⟨b, o, none⟩) hg).trans hc

abbrev Vl.val (v : Vl) : Value := .agg #[.int .i64 v.k, .int .i64 v.n, .float .f64 v.f, .string v.s]

def RowV (w : World) (B : Nat) (p : Option Addr) (L : List Vl) : Prop := ∀ i (hi : i < L.length), ∃ b o, p = some ⟨b, o, none⟩ ∧ b < B ∧
  w.cell? ⟨b, o + i * 4, none⟩ = some (.int .i64 L[i].k) ∧ w.cell? ⟨b, o + i * 4 + 1, none⟩ = some (.int .i64 L[i].n) ∧ w.cell? ⟨b, o + i * 4 + 2, none⟩ = some (.float .f64 L[i].f) ∧ w.cell? ⟨b, o + i * 4 + 3, none⟩ = some (.string L[i].s)

theorem RowV.keep {w w' : World} {B : Nat} {p : Option Addr} {L : List Vl} (h : RowV w B p L) (hb : Below B w w') : RowV w' B p L := by
  intro i hi
  obtain ⟨b, o, e, hbB, c0, c1, c2, c3⟩ := h i hi
  have k : ∀ {o : Nat} {v : Option Value}, w.cell? ⟨b, o, none⟩ = v → w'.cell? ⟨b, o, none⟩ = v := fun {o v} hc => (hb.cell (p := ⟨b, o, none⟩) hbB).trans hc
  exact ⟨b, o, e, hbB, k c0, k c1, k c2, k c3⟩

theorem RowV.mono {w : World} {B C : Nat} {p : Option Addr} {L : List Vl} (h : RowV w B p L) (hb : B ≤ C) : RowV w C p L := by
  intro i hi
  obtain ⟨b, o, e, hbB, r⟩ := h i hi
  exact ⟨b, o, e, Nat.lt_of_lt_of_le hbB hb, r⟩

theorem info_val : (Try.prog.info? 69).map (fun i => (i.zero, i.size, i.bytes)) = some (some (.agg #[.int .i64 0, .int .i64 0, .float .f64 0, .string ⟨#[]⟩]), 4, 40) := by kernel_rfl

def vcell (v : Vl) : List Value := [.int .i64 v.k, .int .i64 v.n, .float .f64 v.f, .string v.s]

/-- values as cells -/
def vcells (L : List Vl) : List Value := L.flatMap vcell

theorem vcells_len (L : List Vl) : (vcells L).length = L.length * 4 := by
  induction L with
  | nil => rfl
  | cons v L ih => simp only [vcells, List.flatMap_cons, List.length_append, List.length_cons] at ih ⊢; rw [ih]; simp [vcell]; omega

theorem vcells_append (a b : List Vl) : vcells (a ++ b) = vcells a ++ vcells b := by simp [vcells]

/-- the slice v owns these values, in a block of number B or more -/
def OwnV (w : World) (B : Nat) (v : Value) (L : List Vl) : Prop := w.ownsRow B 69 4 v L.length (vcells L)

theorem OwnV.nil (w : World) (B : Nat) : OwnV w B (.slice none 0 0) [] := World.ownsRow_nil w B _ _

theorem OwnV.kept {w w' : World} {B : Nat} {v : Value} {L : List Vl} (h : OwnV w B v L) (hb : Below w.heap.size w w') : OwnV w' B v L := by
  refine ⟨h.1, ?_⟩
  rcases h.2 with h1 | ⟨g, cap, cur, e, hb', hg, r⟩
  · exact .inl h1
  · exact .inr ⟨g, cap, cur, e, hb', (hb.block g (Array.getElem?_eq_some_iff.1 hg).1).trans hg, r⟩

theorem vcell_at (L : List Vl) (i : Nat) (hi : i < L.length) (t : Nat) (ht : t < 4) : (vcells L)[i * 4 + t]? = (vcell L[i])[t]? := by
  induction L generalizing i with
  | nil => simp at hi
  | cons v L ih =>
    have hl : (vcell v).length = 4 := rfl
    simp only [vcells, List.flatMap_cons]
    cases i with
    | zero => rw [Nat.zero_mul, Nat.zero_add, List.getElem?_append_left (by omega)]; rfl
    | succ i =>
      rw [List.getElem?_append_right (by omega)]
      have e : (i + 1) * 4 + t - (vcell v).length = i * 4 + t := by omega
      rw [e]
      exact ih i (by simpa using hi)

/-- what is owned can be read as a list of values -/
theorem OwnV.row {w : World} {B : Nat} {v : Value} {L : List Vl} (h : OwnV w B v L) : ∃ (p : Option Addr) (c : Nat), v = .slice p L.length c ∧ RowV w w.heap.size p L := by
  rcases h.2 with ⟨h1, h2⟩ | ⟨g, cap, cur, e, hb, hg, hr⟩
  · have : L = [] := List.eq_nil_of_length_eq_zero h2
    subst this
    exact ⟨none, 0, h1, fun i hi => absurd hi (by simp)⟩
  · refine ⟨_, cap, e, fun i hi => ?_⟩
    subst e
    have hc : ∀ t, t < 4 → w.cell? ⟨g, i * 4 + t, none⟩ = (vcell L[i])[t]? := by
      intro t ht
      have := World.ownsRow.cellAt (w := w) (e := 69) (size := 4) (g := g) (cap := cap) h (i * 4 + t) (by omega)
      rw [this, vcell_at L i hi t ht]
    have h0 := hc 0 (by decide)
    have h1 := hc 1 (by decide)
    have h2 := hc 2 (by decide)
    have h3 := hc 3 (by decide)
    refine ⟨g, 0, rfl, (Array.getElem?_eq_some_iff.1 hg).1, ?_, ?_, ?_, ?_⟩
    · rw [Nat.zero_add]; exact h0
    · rw [Nat.zero_add]; exact h1
    · rw [Nat.zero_add]; exact h2
    · rw [Nat.zero_add]; exact h3

/-- 'append(l, v)' -/
theorem wpList_appV {ops : Array Oper} {rest : List Oper} {o : Oper} {a : Act} {Q : Exit → Act → World → Prop} (w : World) (hgd : o.guard = none) (s x : Operand)
    (ho : o.op = .call { callee := .builtin .append, args := #[s, x], argTypes := #[29, 29] })
    (B : Nat) (v : Value) (L : List Vl) (hs : a.eval s = v) (hown : OwnV w B v L)
    (u : Vl) (g : Nat) (hx : a.eval x = .slice (some ⟨g, 0, none⟩) 1 1) (hgz : g = w.heap.size)
    (hlen : L.length + 1 ≤ 3518437208883) (hbase : B ≤ w.heap.size)
    (h : ∀ v' w', OwnV w' B v' (L ++ [u]) → Below B w w' → wpList Try.prog ops Q rest (a.put o.dst v') w') : wpList Try.prog ops Q (o :: rest) a (w.alloc (.cells #[.int .i64 u.k, .int .i64 u.n, .float .f64 u.f, .string u.s] 69)) := by
  obtain ⟨i, hi, hz0, hz1, hz2⟩ := info_parts info_val
  subst hgz
  have hown' : OwnV (w.alloc (.cells #[.int .i64 u.k, .int .i64 u.n, .float .f64 u.f, .string u.s] 69)) B v L := hown.kept ((Below.refl _ _).alloc (Nat.le_refl _) _)
  refine wpList_append_own _ hgd s x 29 ho B 69 i (.agg #[.int .i64 0, .int .i64 0, .float .f64 0, .string ⟨#[]⟩]) 4 40 Try.underlying29 hi hz0 hz1 hz2 rfl (by decide) v L.length (vcells L) hs hown' ⟨w.heap.size, 0, none⟩ 1 1 (vcells [u]) hx rfl ?_ ?_ (by unfold maxLen; omega) (by omega) (by simp; omega) ?_
  · intro j y hj
    have hj' : j < 4 := by
      have := (List.getElem?_eq_some_iff.1 hj).1
      simpa [vcells, vcell] using this
    have e : (⟨w.heap.size, 0, none⟩ : Addr).add j = ⟨w.heap.size, j, none⟩ := by unfold Addr.add; split <;> simp_all
    rw [e]
    have h4 : j = 0 ∨ j = 1 ∨ j = 2 ∨ j = 3 := by omega
    rcases h4 with rfl | rfl | rfl | rfl <;> (simp [vcells, vcell] at hj; subst hj; simp [go_sem])
  · intro y hy
    simp [vcells, vcell] at hy
    rcases hy with rfl | rfl | rfl | rfl <;> rfl
  · intro v' w' h1 h2 _
    refine h v' w' ?_ ?_
    · unfold OwnV
      rw [vcells_append, List.length_append]
      exact h1
    · exact ((Below.refl _ _).alloc hbase _).grown h2 (by simp; omega) (fun k hk => (hown'.lt k hk).1)

theorem OwnV.form {w : World} {B : Nat} {v : Value} {L : List Vl} (h : OwnV w B v L) : (v = .slice none 0 0 ∧ L = []) ∨ ∃ g cap, v = .slice (some ⟨g, 0, none⟩) L.length cap ∧ B ≤ g ∧ g < w.heap.size := by
  rcases h.2 with ⟨h1, h2⟩ | ⟨g, cap, cur, e, hb, hg, _⟩
  · exact .inl ⟨h1, List.eq_nil_of_length_eq_zero h2⟩
  · exact .inr ⟨g, cap, e, hb, (Array.getElem?_eq_some_iff.1 hg).1⟩

theorem vcells_cons (v : Vl) (L : List Vl) : vcells (v :: L) = .int .i64 v.k :: .int .i64 v.n :: .float .f64 v.f :: .string v.s :: vcells L := rfl

theorem vcells_set : ∀ (L : List Vl) (i : Nat) (r : Vl), i < L.length → vcells (L.set i r) = ((((vcells L).set (i * 4) (.int .i64 r.k)).set (i * 4 + 1) (.int .i64 r.n)).set (i * 4 + 2) (.float .f64 r.f)).set (i * 4 + 3) (.string r.s)
  | [], i, r, hi => by simp at hi
  | v :: L, 0, r, _ => rfl
  | v :: L, i + 1, r, hi => by
    have h := vcells_set L i r (by simpa using hi)
    have e : (i + 1) * 4 = i * 4 + 4 := by omega
    rw [List.set_cons_succ, vcells_cons, vcells_cons, e, h]
    rfl

theorem OwnV.set {w : World} {B g n cap : Nat} {L : List Vl} (h : OwnV w B (.slice (some ⟨g, 0, none⟩) n cap) L) (hn : L.length = n) (i : Nat) (hi : i < L.length) (r : Vl) :
    OwnV ((((w.setCell ⟨g, i * 4, none⟩ (.int .i64 r.k)).setCell ⟨g, i * 4 + 1, none⟩ (.int .i64 r.n)).setCell ⟨g, i * 4 + 2, none⟩ (.float .f64 r.f)).setCell ⟨g, i * 4 + 3, none⟩ (.string r.s)) B (.slice (some ⟨g, 0, none⟩) n cap) (L.set i r) := by
  subst hn
  have h' : w.ownsRow B 69 4 (.slice (some ⟨g, 0, none⟩) L.length cap) L.length (vcells L) := h
  have h3 := ((((h'.stored (i * 4) (.int .i64 r.k)).1.stored (i * 4 + 1) (.int .i64 r.n)).1.stored (i * 4 + 2) (.float .f64 r.f)).1.stored (i * 4 + 3) (.string r.s)).1
  unfold OwnV
  rw [List.length_set, vcells_set L i r hi]
  exact h3

theorem OwnV.at {w : World} {B g n cap : Nat} {L : List Vl} (h : OwnV w B (.slice (some ⟨g, 0, none⟩) n cap) L) (hn : L.length = n) (i : Nat) (hi : i < L.length) :
    (w.cell? ⟨g, i * 4, none⟩ = some (.int .i64 L[i].k) ∧ w.cell? ⟨g, i * 4 + 1, none⟩ = some (.int .i64 L[i].n) ∧ w.cell? ⟨g, i * 4 + 2, none⟩ = some (.float .f64 L[i].f) ∧ w.cell? ⟨g, i * 4 + 3, none⟩ = some (.string L[i].s)) ∧
    (w.frozen? ⟨g, i * 4, none⟩ = false ∧ w.frozen? ⟨g, i * 4 + 1, none⟩ = false ∧ w.frozen? ⟨g, i * 4 + 2, none⟩ = false ∧ w.frozen? ⟨g, i * 4 + 3, none⟩ = false) := by
  subst hn
  have h' : w.ownsRow B 69 4 (.slice (some ⟨g, 0, none⟩) L.length cap) L.length (vcells L) := h
  exact ⟨⟨(h'.cellAt (i * 4) (by omega)).trans (vcell_at L i hi 0 (by decide)), (h'.cellAt (i * 4 + 1) (by omega)).trans (vcell_at L i hi 1 (by decide)), (h'.cellAt (i * 4 + 2) (by omega)).trans (vcell_at L i hi 2 (by decide)), (h'.cellAt (i * 4 + 3) (by omega)).trans (vcell_at L i hi 3 (by decide))⟩, h'.frozenAt _, h'.frozenAt _, h'.frozenAt _, h'.frozenAt _⟩

theorem owns_kept {w w' : World} {B e size n : Nat} {v : Value} {xs : List Value} (h : w.ownsRow B e size v n xs) (hb : Below w.heap.size w w') : w'.ownsRow B e size v n xs := by
  refine ⟨h.1, ?_⟩
  rcases h.2 with h1 | ⟨g, cap, cur, e, hb', hg, r⟩
  · exact .inl h1
  · exact .inr ⟨g, cap, cur, e, hb', (hb.block g (Array.getElem?_eq_some_iff.1 hg).1).trans hg, r⟩

/-- a row of another type stays where a row grows -/
theorem owns_other {w w' : World} {B B' e e' size size' n n' : Nat} {v v' : Value} {xs xs' : List Value} (h : w.ownsRow B e size v n xs) (h' : w.ownsRow B' e' size' v' n' xs') (hne : e ≠ e') (hg : w.grownBy w' v'.ownBlock) : w'.ownsRow B e size v n xs := by
  refine h.kept hg ?_
  rcases h.2 with ⟨rfl, _⟩ | ⟨g, cap, cur, rfl, _, hgc, _⟩
  · exact .inl rfl
  · refine .inr fun he => ?_
    rcases h'.2 with ⟨rfl, _⟩ | ⟨g', cap', cur', rfl, _, hgc', _⟩
    · simp [Value.ownBlock] at he
    · simp only [Value.ownBlock, Option.some.injEq] at he
      subst he
      rw [hgc] at hgc'
      injection hgc' with h1
      injection h1 with _ h2
      exact hne h2

theorem owns_base {w : World} {B C e size n : Nat} {v : Value} {xs : List Value} (h : w.ownsRow B e size v n xs) (hc : C ≤ B) : w.ownsRow C e size v n xs := by
  refine ⟨h.1, ?_⟩
  rcases h.2 with h1 | ⟨g, cap, cur, e, hb', r⟩
  · exact .inl h1
  · exact .inr ⟨g, cap, cur, e, Nat.le_trans hc hb', r⟩

theorem owns_len {w : World} {B e size n : Nat} {v : Value} {xs : List Value} (h : w.ownsRow B e size v n xs) : ∃ (p : Option Addr) (c : Nat), v = .slice p n c ∧ n ≤ c := by
  rcases h.2 with ⟨h1, rfl⟩ | ⟨g, cap, cur, e, _, _, hc, _⟩
  · exact ⟨none, 0, h1, Nat.le_refl _⟩
  · exact ⟨_, _, e, hc⟩

theorem owns_form {w : World} {B e size n : Nat} {v : Value} {xs : List Value} (h : w.ownsRow B e size v n xs) (hn : 0 < n) : ∃ g cap, v = .slice (some ⟨g, 0, none⟩) n cap ∧ B ≤ g ∧ g < w.heap.size := by
  rcases h.2 with ⟨_, h2⟩ | ⟨g, cap, cur, e, hb, hg, _⟩
  · omega
  · exact ⟨g, cap, e, hb, (Array.getElem?_eq_some_iff.1 hg).1⟩

/-- 'append(l, x)' -/
theorem wpList_app1 {ops : Array Oper} {rest : List Oper} {o : Oper} {a : Act} {Q : Exit → Act → World → Prop} (w : World) (hgd : o.guard = none) (s x : Operand) (T S : TypeId) (z : Value) (size bytes : Nat)
    (ho : o.op = .call { callee := .builtin .append, args := #[s, x], argTypes := #[S, S] }) (hu : Try.prog.underlying S = some (.slice T))
    (hinfo : (Try.prog.info? T).map (fun i => (i.zero, i.size, i.bytes)) = some (some z, size, bytes)) (hzs : z.cells.size = size) (hsz : 0 < size)
    (B : Nat) (v : Value) (n : Nat) (xs : List Value) (hs : a.eval s = v) (hown : w.ownsRow B T size v n xs)
    (us : List Value) (hus : us.length = size) (hone : ∀ u ∈ us, u.oneCell' = true) (g : Nat) (hx : a.eval x = .slice (some ⟨g, 0, none⟩) 1 1) (hgz : g = w.heap.size)
    (hlen : (n + 1) * bytes ≤ 140737488355328) (hlen2 : n + 1 ≤ 140737488355328) (hbase : B ≤ w.heap.size)
    (h : ∀ v' w', w'.ownsRow B T size v' (n + 1) (xs ++ us) → Below B w w' → (w.alloc (.cells us.toArray T)).grownBy w' v.ownBlock → wpList Try.prog ops Q rest (a.put o.dst v') w') : wpList Try.prog ops Q (o :: rest) a (w.alloc (.cells us.toArray T)) := by
  obtain ⟨i, hi, hz0, hz1, hz2⟩ := info_parts1 hinfo
  subst hgz
  have hown' := hown.alloc (.cells us.toArray T)
  refine wpList_append_own _ hgd s x S ho B T i z size bytes hu hi hz0 hz1 hz2 hzs hsz v n xs hs hown' ⟨w.heap.size, 0, none⟩ 1 1 us hx (by omega) ?_ hone (by unfold maxLen; omega) hlen (by simp; omega) ?_
  · intro j y hj
    have e : (⟨w.heap.size, 0, none⟩ : Addr).add j = ⟨w.heap.size, j, none⟩ := by unfold Addr.add; split <;> simp_all
    rw [e, World.cell?_alloc_new]
    simpa using hj
  · intro v' w' h1 h2 _
    exact h v' w' h1 (((Below.refl _ _).alloc hbase _).grown h2 (by simp; omega) (fun k hk => (hown'.lt k hk).1)) h2

/-- a cell of a row of things of 'size' cells -/
theorem flat_at {A : Type} (size : Nat) (f : A → List Value) (hf : ∀ x, (f x).length = size) (L : List A) (i : Nat) (hi : i < L.length) (t : Nat) (ht : t < size) : (L.flatMap f)[i * size + t]? = (f L[i])[t]? := by
  induction L generalizing i with
  | nil => simp at hi
  | cons v L ih =>
    have hl : (f v).length = size := hf v
    simp only [List.flatMap_cons]
    cases i with
    | zero => rw [Nat.zero_mul, Nat.zero_add, List.getElem?_append_left (by omega)]; rfl
    | succ i =>
      have e0 : (i + 1) * size = i * size + size := Nat.succ_mul i size
      rw [List.getElem?_append_right (by omega)]
      have e : (i + 1) * size + t - (f v).length = i * size + t := by omega
      rw [e]
      exact ih i (by simpa using hi)

/-- two values, bit by bit -/
def sameV (a b : Vl) : Bool := sameB a.k a.n b.k b.n a.f b.f a.s b.s

/-- two rows, bit by bit -/
def sameL : List Vl → List Vl → Bool
  | [], [] => true
  | a :: x, b :: y => sameV a b && sameL x y
  | _, _ => false

theorem sameL_len {x y : List Vl} (h : x.length ≠ y.length) : sameL x y = false := by
  induction x generalizing y with
  | nil => cases y with
    | nil => exact absurd rfl h
    | cons b y => rfl
  | cons a x ih => cases y with
    | nil => rfl
    | cons b y =>
      show (sameV a b && sameL x y) = false
      rw [ih (by simpa using h)]
      simp

theorem sameL_drop {x y : List Vl} {j : Nat} (h1 : j < x.length) (h2 : j < y.length) : sameL (x.drop j) (y.drop j) = (sameV x[j] y[j] && sameL (x.drop (j + 1)) (y.drop (j + 1))) := by
  rw [List.drop_eq_getElem_cons h1, List.drop_eq_getElem_cons h2]
  rfl

set_option maxHeartbeats 2000000 in
theorem rsameRow_any (L M : List Vl) (p q : Option Addr) (c d : Nat) (w : World) (hA : RowV w w.heap.size p L) (hB : RowV w w.heap.size q M) (hlen : L.length ≤ 17592186043904) (_hlen2 : M.length ≤ 17592186043904) :
    Calls Try.prog 28 #[.slice p L.length c, .slice q M.length d] w fun e w' => e = .returned (.bool (sameL L M)) ∧ Below w.heap.size w w' := by
  have HA : Hid (RowV w w.heap.size p L ∧ RowV w w.heap.size q M) := ⟨hA, hB⟩
  clear hA hB
  by_cases hl : L.length = M.length
  · have HL : Hid (L.length = M.length ∧ True) := ⟨hl, trivial⟩
    rw [← hl]
    have hE : Hid (sameL (L.drop L.length) (M.drop L.length) = true) := by
      show _ = _
      rw [List.drop_length, hl, List.drop_length]
      rfl
    clear hl
    go_enter Try.func28, Try.ntmps28
    go_wp2_with fail
    go_loopw [5] (fun i wr => ∃ j : Nat, j ≤ L.length ∧ i = .int .i64 (j : Int) ∧ Hid (sameL (L.drop j) (M.drop j) = sameL L M) ∧ Below w.heap.size w wr) (fun i _ => L.length - (intOf i).toNat)
    case atStart => exact ⟨0, Nat.zero_le _, by go_num, rfl, Below.refl _ _⟩
    case round =>
      obtain ⟨j, hj, rfl, hs, hn⟩ := hrel
      by_cases hj0 : j = L.length
      · subst hj0
        go_wp2
        go_ret
        exact ⟨boolV (hE.out.symm.trans hs.out), hn⟩
      · have hj1 : j < L.length := by omega
        have hj2 : j < M.length := by have := HL.out.1; omega
        obtain ⟨b, o, rfl, hbB, c0, c1, c2, c3⟩ := HA.out.1 j hj1
        obtain ⟨bm, om, rfl, hbm, d0, d1, d2, d3⟩ := HA.out.2 j hj2
        have a0 := (hn.cell (p := ⟨b, o + j * 4, none⟩) hbB).trans c0
        have a1 := (hn.cell (p := ⟨b, o + j * 4 + 1, none⟩) hbB).trans c1
        have a2 := (hn.cell (p := ⟨b, o + j * 4 + 2, none⟩) hbB).trans c2
        have a3 := (hn.cell (p := ⟨b, o + j * 4 + 3, none⟩) hbB).trans c3
        have q0 := (hn.cell (p := ⟨bm, om + j * 4, none⟩) hbm).trans d0
        have q1 := (hn.cell (p := ⟨bm, om + j * 4 + 1, none⟩) hbm).trans d1
        have q2 := (hn.cell (p := ⟨bm, om + j * 4 + 2, none⟩) hbm).trans d2
        have q3 := (hn.cell (p := ⟨bm, om + j * 4 + 3, none⟩) hbm).trans d3
        have HS : Hid ((sameV L[j] M[j] && sameL (L.drop (j + 1)) (M.drop (j + 1))) = sameL L M) := (sameL_drop hj1 hj2).symm.trans hs.out
        have CS : Hid (∀ w1 : World, Calls Try.prog 33 #[.agg #[.int .i64 (L[j]).k, .int .i64 (L[j]).n, .float .f64 (L[j]).f, .string (L[j]).s], .agg #[.int .i64 (M[j]).k, .int .i64 (M[j]).n, .float .f64 (M[j]).f, .string (M[j]).s]] w1 fun e w' => e = .returned (.bool (sameV L[j] M[j])) ∧ Below w1.heap.size w1 w') := fun w1 => rsame_any (L[j]).k (L[j]).n (M[j]).k (M[j]).n (L[j]).f (M[j]).f (L[j]).s (M[j]).s w1
        clear c0 c1 c2 c3 d0 d1 d2 d3 hj0 hs
        generalize sameV L[j] M[j] = sv at *
        generalize L[j] = x at *
        generalize M[j] = y at *
        obtain ⟨xk, xn, xf, xs⟩ := x
        obtain ⟨yk, yn, yf, ys⟩ := y
        dsimp only at a0 a1 a2 a3 q0 q1 q2 q3 CS
        cases sv
        · have HE : Hid (sameL L M = false) := HS.out.symm
          clear HS
          go_wp2_with fail
          go_region_with (first | (go_at_call 33; refine (CS.out _).mono ?_; rintro e w5 ⟨rfl, hb5⟩))
          all_goals (try go_wp2)
          all_goals go_ret
          all_goals exact ⟨boolV HE.out.symm, hn.drew.trans (hb5.mono (by simpa using hn.size))⟩
        · have HE : Hid (sameL (L.drop (j + 1)) (M.drop (j + 1)) = sameL L M) := HS.out
          clear HS
          go_wp2_with fail
          go_region_with (first | (go_at_call 33; refine (CS.out _).mono ?_; rintro e w5 ⟨rfl, hb5⟩))
          all_goals (try go_wp2)
          all_goals go_roundw
          all_goals first
            | (exact ⟨j + 1, by omega, by go_num, HE, hn.drew.trans (hb5.mono (by simpa using hn.size))⟩)
            | (simp [intOf]; omega)
  · rw [sameL_len hl]
    have hl' : ((L.length : Int) != (M.length : Int)) = true := by simp; omega
    clear hl HA
    go_enter Try.func28, Try.ntmps28
    go_wp2
    go_ret
    exact ⟨rfl, Below.refl _ _⟩
end Go.Proofs.Yteddpogjpohacab
