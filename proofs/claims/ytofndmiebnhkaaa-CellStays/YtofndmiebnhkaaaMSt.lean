/- What CellStays knows: what All told, beside a place and the document's. -/
import Derived.Test.YtofndmiebnhkaaaMAct
namespace Go.Proofs.Ytofndmiebnhkaaa
open Go.RowKit
set_option maxRecDepth 100000

theorem RdI.weaken {w : World} {lo lo' : Nat} {p : Option Addr} {O : List Int} (h : RdI w lo p O) (hl : lo' ≤ lo) : RdI w lo' p O := fun i hi => by
  obtain ⟨g, e1, e2, e3, e4⟩ := h i hi
  exact ⟨g, e1, Nat.le_trans hl e2, e3, e4⟩
/-- a slice that does not lie in another one's block -/
def offU (u v : Value) : Prop := ∀ g, u.ownBlock = some g → offB g v
theorem off_start {w w' : World} {lo : Nat} {v u : Value} {O : List Int} {T n : Nat} {xs : List Value} (h : SlI w lo v O) (ho : w'.ownsRow w.heap.size T 1 u n xs) : offU u v := by
  intro g hg a l c e
  have h1 := (ho.lt g hg).1
  rcases h with ⟨h, _⟩ | ⟨g', c', h, _, h3, _⟩
  · rw [h] at e; cases e
  · rw [h] at e; cases e; show g' ≠ g; omega
theorem own_slice {w : World} {B T n : Nat} {u : Value} {xs : List Value} (h : w.ownsRow B T 1 u n xs) : ∃ p c, u = .slice p n c := by
  rcases h.2 with ⟨h1, h2⟩ | ⟨g, cap, cur, hv, _⟩
  · exact ⟨none, 0, by rw [h1, h2]⟩
  · exact ⟨_, _, hv⟩
theorem own_some {w : World} {B T n c : Nat} {p : Option Addr} {xs : List Value} (h : w.ownsRow B T 1 (.slice p n c) n xs) (hn : 0 < n) : ∃ g, p = some ⟨g, 0, none⟩ := by
  rcases h.2 with ⟨_, h2⟩ | ⟨g, cap, cur, hv, _⟩
  · omega
  · cases hv; exact ⟨g, rfl⟩
theorem own_heap {w : World} {B T n c g : Nat} {xs : List Value} (h : w.ownsRow B T 1 (.slice (some ⟨g, 0, none⟩) n c) n xs) : ∃ cur, w.heap[g]? = some (.cells cur T (0, 0)) := by
  rcases h.2 with ⟨h1, _⟩ | ⟨g', cap, cur, hv, _, hg, _⟩
  · cases h1
  · cases hv; exact ⟨cur, hg⟩
theorem own_lo {w : World} {B T n c g : Nat} {xs : List Value} (h : w.ownsRow B T 1 (.slice (some ⟨g, 0, none⟩) n c) n xs) : B ≤ g := by
  rcases h.2 with ⟨h1, _⟩ | ⟨g', cap, cur, hv, hb, _⟩
  · cases h1
  · cases hv; exact hb
theorem own_cell {w : World} {B T n c g j : Nat} {xs : List Value} (h : w.ownsRow B T 1 (.slice (some ⟨g, 0, none⟩) n c) n xs) (hj : j < n) : ∃ y, w.cell? ⟨g, j, none⟩ = some y := by
  have e := World.ownsRow.cellAt h j (by omega)
  have hl : j < xs.length := by rw [h.1]; omega
  exact ⟨xs[j], by rw [e, List.getElem?_eq_getElem hl]⟩
theorem PL.none {w w1 w2 : World} {b bx lo : Nat} {O : List Int} {n : Nat} {v : Value} (h : PL w b bx lo O n v w1) (hw : w1.grownBy w2 none) : PL w b bx lo O n v w2 :=
  h.on ⟨hw.os, hw.tape, hw.output, hw.size, fun k hk => hw.block k hk (by simp)⟩
theorem PL.offU {w w1 w2 : World} {b bx lo B : Nat} {O : List Int} {n : Nat} {v u : Value} {k : Nat} {xs : List Value} (h : PL w b bx lo O n v w1) (ho : w1.ownsRow B 2 1 u k xs) (hB : lo ≤ B) (hw : w1.grownBy w2 u.ownBlock) (hv : offU u v) : PL w b bx lo O n v w2 := by
  rcases ho.2 with ⟨rfl, _⟩ | ⟨g, cap, cur, rfl, h1, h2, _⟩
  · exact h.none hw
  · exact h.off hw h2 (hv g rfl) (Nat.le_trans hB h1)

/-- WHAT ALL TOLD (u, as O1), what the document kept then (v1), and both places now. -/
structure ST (w : World) (b bx lo : Nat) (O : List Int) (n : Nat) (v : Value) (O1 : List Int) (v1 u : Value) (wr : World) : Prop where
  pl : PL w b bx lo O n v wr
  own : wr.ownsRow lo 2 1 u O1.length (cellsX O1)
  was : SlI wr lo v1 O1
  off : offU u v
theorem own_base {w : World} {B B' T n : Nat} {u : Value} {xs : List Value} (h : w.ownsRow B T 1 u n xs) (hB : B' ≤ B) : w.ownsRow B' T 1 u n xs := by
  refine ⟨h.1, ?_⟩
  rcases h.2 with h | ⟨g, cap, cur, h1, h2, h3⟩
  · exact .inl h
  · exact .inr ⟨g, cap, cur, h1, Nat.le_trans hB h2, h3⟩
theorem own_on {w w' : World} {B T n : Nat} {u : Value} {xs : List Value} {r : Option Nat} (h : w.ownsRow B T 1 u n xs) (hg : w.grownBy w' r) (hr : ∀ k, r = some k → k < B) : w'.ownsRow B T 1 u n xs := by
  refine ⟨h.1, ?_⟩
  rcases h.2 with h | ⟨g, cap, cur, h1, h2, h3, h4⟩
  · exact .inl h
  · exact .inr ⟨g, cap, cur, h1, h2, (hg.block g (Array.getElem?_eq_some_iff.1 h3).1 (fun e => by have := hr g e.symm; omega)).trans h3, h4⟩
theorem ST.start {w w1 w2 : World} {b bx lo : Nat} {O : List Int} {n : Nat} {v u : Value} (h : PL w b bx lo O n v w1) (hb : Below w1.heap.size w1 w2) (ho : w2.ownsRow w1.heap.size 2 1 u O.length (cellsX O)) : ST w b bx lo O n v O v u w2 :=
  ⟨h.on hb, own_base ho h.sz, h.sl.keep hb (Nat.le_refl _), off_start h.sl ho⟩
theorem ST.on {w w1 w2 : World} {b bx lo : Nat} {O : List Int} {n : Nat} {v : Value} {O1 : List Int} {v1 u : Value} (h : ST w b bx lo O n v O1 v1 u w1) (hb : Below w1.heap.size w1 w2) : ST w b bx lo O n v O1 v1 u w2 :=
  ⟨h.pl.on hb, own_on h.own (grown_below (r := Option.none) hb (Nat.le_refl _)) (fun _ e => by cases e), h.was.keep hb (Nat.le_refl _), h.off⟩
theorem ST.drew {w w1 : World} {b bx lo : Nat} {O : List Int} {n : Nat} {v : Value} {O1 : List Int} {v1 u : Value} (h : ST w b bx lo O n v O1 v1 u w1) : ST w b bx lo O n v O1 v1 u w1.drew := h.on (by go_grown)
theorem ST.set {w w1 w2 : World} {b bx lo : Nat} {O O2 : List Int} {n n2 : Nat} {v v2 : Value} {O1 : List Int} {v1 u : Value} (h : ST w b bx lo O n v O1 v1 u w1) (hg : w1.grownBy w2 (some b)) (hs : SlI w2 lo v2 O2) (hc : CelE w2 b lo O2 n2) (hof : ∀ g, g < w1.heap.size → offB g v → offB g v2) :
    ST w b bx lo O2 n2 v2 O1 v1 u ((w2.setCell ⟨bx, 0, none⟩ v2).setCell ⟨bx, 1, none⟩ (.int .u64 (n2 : Nat))) := by
  have g1 := grownBy_set w2 bx 0 v2
  have g2 := grownBy_set (w2.setCell ⟨bx, 0, none⟩ v2) bx 1 (.int .u64 (n2 : Nat))
  have hbl := h.pl.cel.lt
  have hxl := h.pl.xlo
  refine ⟨h.pl.set hg hs hc, own_on (own_on (own_on h.own hg ?_) g1 ?_) g2 ?_, ((h.was.grown hg hbl).grown g1 hxl).grown g2 hxl, fun g e => hof g (h.own.lt g e).2 (h.off g e)⟩
  · intro k e; cases e; exact hbl
  · intro k e; cases e; exact hxl
  · intro k e; cases e; exact hxl
/-- 'append(l, x, y)' -/
theorem wpList_app2 {ops : Array Oper} {rest : List Oper} {o : Oper} {a : Act} {Q : Exit → Act → World → Prop} (w : World) (hgd : o.guard = Option.none) (s x : Operand) (T S : TypeId) (z : Value) (size bytes : Nat)
    (ho : o.op = .call { callee := .builtin .append, args := #[s, x], argTypes := #[S, S] }) (hu : Try.prog.underlying S = some (.slice T))
    (hinfo : (Try.prog.info? T).map (fun i => (i.zero, i.size, i.bytes)) = some (some z, size, bytes)) (hzs : z.cells.size = size) (hsz : 0 < size)
    (B : Nat) (v : Value) (n : Nat) (xs : List Value) (hs : a.eval s = v) (hown : w.ownsRow B T size v n xs)
    (us : List Value) (hus : us.length = 2 * size) (hone : ∀ u ∈ us, u.oneCell' = true) (g : Nat) (hx : a.eval x = .slice (some ⟨g, 0, none⟩) 2 2) (hgz : g = w.heap.size)
    (hlen : (n + 2) * bytes ≤ 140737488355328) (hlen2 : n + 2 ≤ 140737488355328) (hbase : B ≤ w.heap.size)
    (h : ∀ v' w', w'.ownsRow B T size v' (n + 2) (xs ++ us) → Below B w w' → (w.alloc (.cells us.toArray T)).grownBy w' v.ownBlock → wpList Try.prog ops Q rest (a.put o.dst v') w') : wpList Try.prog ops Q (o :: rest) a (w.alloc (.cells us.toArray T)) := by
  obtain ⟨i, hi, hz0, hz1, hz2⟩ := info_parts hinfo
  subst hgz
  have hown' := hown.alloc (.cells us.toArray T)
  refine wpList_append_own _ hgd s x S ho B T i z size bytes hu hi hz0 hz1 hz2 hzs hsz v n xs hs hown' ⟨w.heap.size, 0, Option.none⟩ 2 2 us hx (by omega) ?_ hone (by unfold maxLen; omega) hlen (by simp; omega) ?_
  · intro j y hj
    have e : (⟨w.heap.size, 0, Option.none⟩ : Addr).add j = ⟨w.heap.size, j, Option.none⟩ := by unfold Addr.add; split <;> simp_all
    rw [e, World.cell?_alloc_new]
    simpa using hj
  · intro v' w' h1 h2 _
    exact h v' w' h1 (((Below.refl _ _).alloc hbase _).grown h2 (by simp; omega) (fun k hk => (hown'.lt k hk).1)) h2
end Go.Proofs.Ytofndmiebnhkaaa
