/- Rows that a call owns: one element put behind it. Layer 12: swings of links; a node's links in the making. -/
import Derived.Deep.Light
import Derived.Laws.AppendOwnNone
import Derived.Laws.OwnMore
import Derived.Test.YtojfohpnfciajaaGWSkp12
namespace Go.Proofs.Ytojfohpnfciajaa
open Go.RowKit
set_option maxRecDepth 100000

theorem info_parts1 {T : TypeId} {z : Value} {s b : Nat} (h : (Try.prog.info? T).map (fun i => (i.zero, i.size, i.bytes)) = some (some z, s, b)) : ∃ i, Try.prog.info? T = some i ∧ i.zero = some z ∧ i.size = s ∧ i.bytes = b := by
  cases hi : Try.prog.info? T with
  | none => rw [hi] at h; cases h
  | some i =>
    rw [hi] at h
    simp only [Option.map_some, Option.some.injEq, Prod.mk.injEq] at h
    exact ⟨i, rfl, h.1, h.2.1, h.2.2⟩
theorem owns_kept {w w' : World} {B e size n : Nat} {v : Value} {xs : List Value} (h : w.ownsRow B e size v n xs) (hb : Below w.heap.size w w') : w'.ownsRow B e size v n xs := by
  refine ⟨h.1, ?_⟩
  rcases h.2 with h1 | ⟨g, cap, cur, e, hb', hg, r⟩
  · exact .inl h1
  · exact .inr ⟨g, cap, cur, e, hb', (hb.block g (Array.getElem?_eq_some_iff.1 hg).1).trans hg, r⟩
theorem owns_other {w w' : World} {B B' e e' size size' n n' : Nat} {v v' : Value} {xs xs' : List Value} (h : w.ownsRow B e size v n xs) (h' : w.ownsRow B' e' size' v' n' xs') (hne : e ≠ e') (hg : w.grownBy w' v'.ownBlock) : w'.ownsRow B e size v n xs := by
  refine h.kept hg ?_
  rcases h.2 with ⟨rfl, _⟩ | ⟨g, cap, cur, rfl, _, hgc, _⟩
  · exact .inl rfl
  · refine .inr fun he => ?_
    rcases h'.2 with ⟨rfl, _⟩ | ⟨g', cap', cur', rfl, _, hgc', _⟩
    · simp [Value.ownBlock] at he
    · simp only [Value.ownBlock, Option.some.injEq] at he
      subst he
      rw [hgc] at hgc'
      injection hgc' with h1
      injection h1 with _ h2
      exact hne h2
theorem owns_base {w : World} {B C e size n : Nat} {v : Value} {xs : List Value} (h : w.ownsRow B e size v n xs) (hc : C ≤ B) : w.ownsRow C e size v n xs := by
  refine ⟨h.1, ?_⟩
  rcases h.2 with h1 | ⟨g, cap, cur, e, hb', r⟩
  · exact .inl h1
  · exact .inr ⟨g, cap, cur, e, Nat.le_trans hc hb', r⟩
theorem owns_len {w : World} {B e size n : Nat} {v : Value} {xs : List Value} (h : w.ownsRow B e size v n xs) : ∃ (p : Option Addr) (c : Nat), v = .slice p n c ∧ n ≤ c := by
  rcases h.2 with ⟨h1, rfl⟩ | ⟨g, cap, cur, e, _, _, hc, _⟩
  · exact ⟨none, 0, h1, Nat.le_refl _⟩
  · exact ⟨_, _, e, hc⟩
theorem owns_form {w : World} {B e size n : Nat} {v : Value} {xs : List Value} (h : w.ownsRow B e size v n xs) (hn : 0 < n) : ∃ g cap, v = .slice (some ⟨g, 0, none⟩) n cap ∧ B ≤ g ∧ g < w.heap.size := by
  rcases h.2 with ⟨_, h2⟩ | ⟨g, cap, cur, e, hb, hg, _⟩
  · omega
  · exact ⟨g, cap, e, hb, (Array.getElem?_eq_some_iff.1 hg).1⟩
theorem wpList_app1 {ops : Array Oper} {rest : List Oper} {o : Oper} {a : Act} {Q : Exit → Act → World → Prop} (w : World) (hgd : o.guard = none) (s x : Operand) (T S : TypeId) (z : Value) (size bytes : Nat)
    (ho : o.op = .call { callee := .builtin .append, args := #[s, x], argTypes := #[S, S] }) (hu : Try.prog.underlying S = some (.slice T))
    (hinfo : (Try.prog.info? T).map (fun i => (i.zero, i.size, i.bytes)) = some (some z, size, bytes)) (hzs : z.cells.size = size) (hsz : 0 < size)
    (B : Nat) (v : Value) (n : Nat) (xs : List Value) (hs : a.eval s = v) (hown : w.ownsRow B T size v n xs)
    (us : List Value) (hus : us.length = size) (hone : ∀ u ∈ us, u.oneCell' = true) (g : Nat) (hx : a.eval x = .slice (some ⟨g, 0, none⟩) 1 1) (hgz : g = w.heap.size)
    (hlen : (n + 1) * bytes ≤ 140737488355328) (hlen2 : n + 1 ≤ 140737488355328) (hbase : B ≤ w.heap.size)
    (h : ∀ v' w', w'.ownsRow B T size v' (n + 1) (xs ++ us) → Below B w w' → (w.alloc (.cells us.toArray T)).grownBy w' v.ownBlock → wpList Try.prog ops Q rest (a.put o.dst v') w') : wpList Try.prog ops Q (o :: rest) a (w.alloc (.cells us.toArray T)) := by
  obtain ⟨i, hi, hz0, hz1, hz2⟩ := info_parts1 hinfo
  subst hgz
  have hown' := hown.alloc (.cells us.toArray T)
  refine wpList_append_own _ hgd s x S ho B T i z size bytes hu hi hz0 hz1 hz2 hzs hsz v n xs hs hown' ⟨w.heap.size, 0, none⟩ 1 1 us hx (by omega) ?_ hone (by unfold maxLen; omega) hlen (by simp; omega) ?_
  · intro j y hj
    have e : (⟨w.heap.size, 0, none⟩ : Addr).add j = ⟨w.heap.size, j, none⟩ := by unfold Addr.add; split <;> simp_all
    rw [e, World.cell?_alloc_new]
    simpa using hj
  · intro v' w' h1 h2 _
    exact h v' w' h1 (((Below.refl _ _).alloc hbase _).grown h2 (by simp; omega) (fun k hk => (hown'.lt k hk).1)) h2
theorem flat_at {A : Type} (size : Nat) (f : A → List Value) (hf : ∀ x, (f x).length = size) (L : List A) (i : Nat) (hi : i < L.length) (t : Nat) (ht : t < size) : (L.flatMap f)[i * size + t]? = (f L[i])[t]? := by
  induction L generalizing i with
  | nil => simp at hi
  | cons v L ih =>
    have hl : (f v).length = size := hf v
    simp only [List.flatMap_cons]
    cases i with
    | zero => rw [Nat.zero_mul, Nat.zero_add, List.getElem?_append_left (by omega)]; rfl
    | succ i =>
      have e0 : (i + 1) * size = i * size + size := Nat.succ_mul i size
      rw [List.getElem?_append_right (by omega)]
      have e : (i + 1) * size + t - (f v).length = i * size + t := by omega
      rw [e]
      exact ih i (by simpa using hi)
theorem wp_appW {o : Oper} {a : Act} {K : Act → World → Prop} {Q : Exit → Act → World → Prop} (W : World) (s x : Operand) (T S : TypeId) (z : Value) (size bytes : Nat)
    (ho : o.op = .call { callee := .builtin .append, args := #[s, x], argTypes := #[S, S] }) (hu : Try.prog.underlying S = some (.slice T))
    (hinfo : (Try.prog.info? T).map (fun i => (i.zero, i.size, i.bytes)) = some (some z, size, bytes)) (hzs : z.cells.size = size) (hsz : 0 < size)
    (B : Nat) (v : Value) (n : Nat) (xs : List Value) (hs : a.eval s = v) (hown : W.ownsRow B T size v n xs)
    (us : List Value) (hus : us.length = size) (hone : ∀ u ∈ us, u.oneCell' = true) (g : Nat) (hx : a.eval x = .slice (some ⟨g, 0, none⟩) 1 1) (hcell : ∀ (j : Nat) u, us[j]? = some u → W.cell? ⟨g, j, none⟩ = some u)
    (hlen : (n + 1) * bytes ≤ 140737488355328) (hlen2 : n + 1 ≤ 140737488355328) (hbase : B ≤ W.heap.size)
    (h : ∀ v' w', w'.ownsRow B T size v' (n + 1) (xs ++ us) → W.grownBy w' v.ownBlock → K (a.put o.dst v') w') : Oper.wp Try.prog o a W K Q := by
  obtain ⟨i, hi, hz0, hz1, hz2⟩ := info_parts1 hinfo
  refine wp_append_own _ s x S ho B T i z size bytes hu hi hz0 hz1 hz2 hzs hsz v n xs hs hown ⟨g, 0, none⟩ 1 1 us hx (by omega) ?_ hone (by unfold maxLen; omega) hlen hbase ?_
  · intro j y hj
    have e : (⟨g, 0, none⟩ : Addr).add j = ⟨g, j, none⟩ := by unfold Addr.add; split <;> simp_all
    rw [e]
    exact hcell j y hj
  · intro v' w' h1 h2 _
    exact h v' w' h1 h2

end Go.Proofs.Ytojfohpnfciajaa

namespace Go.Proofs.Ytojfohpnfciajaa
open Go.RowKit
set_option maxRecDepth 100000

/-- a swing: the links' block, the level, from which link, to which -/
abbrev Sw := Nat × Nat × Nat × Nat
def swC (z : Sw) : List Value := [.pointer (some ⟨z.1, z.2.1, none⟩), ptr1 z.2.2.1, ptr1 z.2.2.2]
theorem info_sw : (Try.prog.info? 144).map (fun i => (i.zero, i.size, i.bytes)) = some (some (.agg #[.pointer none, .pointer none, .pointer none]), 3, 24) := by kernel_rfl
abbrev OwnS (w : World) (B : Nat) (v : Value) (S : List Sw) : Prop := w.ownsRow B 144 3 v S.length (S.flatMap swC)
/-- it leads from the last one ahead of a place on its level -/
def SwAt (w : World) (hl : Nat) (N : List Nd) (m : Nat) (g : Nat → Option Nat) (i : Nat) (z : Sw) : Prop :=
  ∃ p f t, z = (lbOf hl N p, i, f, t) ∧ LastL i m (ensN N) p ∧ OnL i N p ∧ w.cell? ⟨lbOf hl N p, i, none⟩ = some (ptr1 f) ∧ (∃ x, Blk w f #[x] 132) ∧ Blk w t #[ptrO (g i)] 132
theorem SwAt.on {w w' : World} {hl : Nat} {N : List Nd} {m : Nat} {g : Nat → Option Nat} {i : Nat} {z : Sw} (h : SwAt w hl N m g i z) (hb : Below w.heap.size w w') : SwAt w' hl N m g i z := by
  obtain ⟨p, f, t, e, h1, h2, h3, ⟨x, h4⟩, h5⟩ := h
  exact ⟨p, f, t, e, h1, h2, cell_on h3 hb, ⟨x, h4.on hb⟩, h5.on hb⟩
theorem SwAt.set {w : World} {hl : Nat} {N : List Nd} {m : Nat} {g : Nat → Option Nat} {i : Nat} {z : Sw} (h : SwAt w hl N m g i z) {b j : Nat} {v : Value} {cs : Array Value} {T : TypeId} (hb : Blk w b cs T) (hT : T ≠ 132) (hc : (∀ p, OnL i N p → lbOf hl N p ≠ b) ∨ i ≠ j) : SwAt (w.setCell ⟨b, j, none⟩ v) hl N m g i z := by
  obtain ⟨p, f, t, e, h1, h2, h3, ⟨x, h4⟩, h5⟩ := h
  refine ⟨p, f, t, e, h1, h2, ?_, ⟨x, h4.other (h4.ne hb (Ne.symm hT)) j _⟩, h5.other (h5.ne hb (Ne.symm hT)) j _⟩
  by_cases e2 : lbOf hl N p = b
  · rcases hc with hc | hc
    · exact absurd e2 (hc p h2)
    · subst e2
      have hk := hb.set j v
      unfold Blk at hb
      have h6 : cs[i]? = some (ptr1 f) := by
        simp [World.cell?, hb] at h3
        exact h3
      exact hk.cell (by rw [Array.getElem?_setIfInBounds_ne (Ne.symm hc)]; exact h6)
  · have : (w.setCell ⟨b, j, none⟩ v).cell? ⟨lbOf hl N p, i, none⟩ = w.cell? ⟨lbOf hl N p, i, none⟩ := World.cell?_of_block (heap_set_other w b j _ v e2)
    rw [this]
    exact h3
/-- blocks that are none of the nodes' links, nodes, values -/
theorem SkF.frm' {w w' : World} {hb hl : Nat} {N : List Nd} {f : Nat → Nat → Option Nat} {F : Nat → Prop} (h : SkF w hb hl N f) (hf : Frm w w' F) (ho : ∀ k cs T, F k → Blk w k cs T → T ≠ 125 ∧ T ≠ 132 ∧ T ≠ 2) (hk : ∀ k, F k → k ∉ hl :: N.map Nd.lb) : SkF w' hb hl N f := by
  obtain ⟨hv, hd⟩ := h.hd
  obtain ⟨cs, hkk, hs⟩ := h.hlk
  have kN : ∀ {b cs}, Blk w b cs 125 → Blk w' b cs 125 := fun hx => hx.frm hf (fun hF => (ho _ _ _ hF hx).1 rfl)
  refine ⟨⟨hv, kN hd⟩, ⟨cs, hkk.frm hf (fun hF => hk _ hF (by simp)), hs⟩, fun x hx => kN (h.nd x hx), fun x hx => ?_, fun x hx => (h.val x hx).frm hf (fun hF => (ho _ _ _ hF (h.val x hx)).2.2 rfl), h.ht, h.one, h.lone, fun p l h1 h2 => ?_⟩
  · obtain ⟨cs, h1, h2⟩ := h.lks x hx
    exact ⟨cs, h1.frm hf (fun hF => hk _ hF (List.mem_cons_of_mem _ (List.mem_map_of_mem hx))), h2⟩
  · obtain ⟨kb, h3, h4⟩ := h.lk p l h1 h2
    obtain ⟨ds, h5, h6⟩ := h.lb h1 h2
    have h7 : ds[l]? = some (ptr1 kb) := by
      have h8 : w.cell? ⟨lbOf hl N p, l, none⟩ = some ds[l] := h5.cell (Array.getElem?_eq_getElem h6)
      rw [h3] at h8
      injection h8 with h8
      rw [h8]
      exact Array.getElem?_eq_getElem h6
    have hn : ¬ F (lbOf hl N p) := by
      intro hF
      refine hk _ hF ?_
      cases p with
      | zero => exact List.mem_cons_self
      | succ i =>
        have hi : i < N.length := h2.le
        rw [lbOf_at hl hi]
        exact List.mem_cons_of_mem _ (List.mem_map_of_mem (List.getElem_mem hi))
    exact ⟨kb, (h5.frm hf hn).cell h7, h4.frm hf (fun hF => (ho _ _ _ hF h4).2.1 rfl)⟩
theorem lbOf_mem {hl : Nat} {N : List Nd} {p : Nat} (hp : p ≤ N.length) : lbOf hl N p ∈ hl :: N.map Nd.lb := by
  cases p with
  | zero => exact List.mem_cons_self
  | succ i =>
    rw [lbOf_at hl hp]
    exact List.mem_cons_of_mem _ (List.mem_map_of_mem (List.getElem_mem hp))
/-- a row that is owned is not a block of another type -/
theorem owns_ne {w : World} {B e size n : Nat} {v : Value} {xs : List Value} (h : w.ownsRow B e size v n xs) {b : Nat} {cs : Array Value} {T : TypeId} (hb : Blk w b cs T) (hT : e ≠ T) : v.ownBlock = none ∨ v.ownBlock ≠ some b := by
  rcases h.2 with ⟨rfl, _⟩ | ⟨g, cap, cur, rfl, _, hg, _⟩
  · exact .inl rfl
  · refine .inr (fun e2 => ?_)
    simp only [Value.ownBlock, Option.some.injEq] at e2
    subst e2
    unfold Blk at hb
    rw [hg] at hb
    injection hb with hb
    injection hb with _ hb
    exact hT hb
/-- A NODE's LINKS IN THE MAKING, and the swings to it. -/
structure AddS (w wq : World) (hl : Nat) (N : List Nd) (m xn xl h g : Nat) (c : Int) (A : Array Value) (ls : Value) (S : List Sw) (i : Nat) : Prop where
  fr : Frm w wq (one1 xl)
  pb : Blk wq (w.heap.size + 1) A 177
  xc : ∃ cs, Blk wq xl cs 129 ∧ cs.size = h ∧ (∀ l, l < i → ∃ kb, cs[l]? = some (ptr1 kb) ∧ Blk wq kb #[ptrO (tgt l (N.drop m))] 132) ∧ ∀ l, i ≤ l → l < h → cs[l]? = some (.pointer none)
  gb : Blk wq g (chC 0 false c ls (.slice none 0 0)) 93
  gn : w.heap.size ≤ g
  ow : OwnS wq w.heap.size ls S
  sw : ∀ j (hj : j < S.length), SwAt wq hl N m (fun _ => some xn) j S[j]
  xo : xl ∉ hl :: N.map Nd.lb
  xw : xl < w.heap.size
theorem AddS.keep {w wq w' : World} {hl : Nat} {N : List Nd} {m xn xl h g : Nat} {c : Int} {A : Array Value} {ls : Value} {S : List Sw} {i : Nat} (q : AddS w wq hl N m xn xl h g c A ls S i) (hb : Below wq.heap.size wq w') : AddS w w' hl N m xn xl h g c A ls S i := by
  obtain ⟨cs, h1, h2, h3, h4⟩ := q.xc
  exact ⟨q.fr.trans (Frm.of_below (F := none1) hb) (fun k hk => hk.elim), q.pb.on hb, ⟨cs, h1.on hb, h2, fun l hl' => by obtain ⟨kb, h5, h6⟩ := h3 l hl'; exact ⟨kb, h5, h6.on hb⟩, h4⟩, q.gb.on hb, q.gn, owns_kept q.ow hb, fun j hj => (q.sw j hj).on hb, q.xo, q.xw⟩
/-- the node's own link on a level -/
theorem AddS.own {w wq : World} {hl : Nat} {N : List Nd} {m xn xl h g : Nat} {c : Int} {A : Array Value} {ls : Value} {S : List Sw} {i : Nat} (q : AddS w wq hl N m xn xl h g c A ls S i) (hi : i < h) {kb : Nat} (hk : Blk wq kb #[ptrO (tgt i (N.drop m))] 132) :
    AddS w (wq.setCell ⟨xl, i, none⟩ (ptr1 kb)) hl N m xn xl h g c A ls S (i + 1) := by
  obtain ⟨cs, h1, h2, h3, h4⟩ := q.xc
  refine ⟨q.fr.trans (frm_set wq xl i _ (F := one1 xl) (.inl rfl)) (fun k hk => .inl hk), q.pb.other (q.pb.ne h1 (by decide)) i _, ⟨_, h1.set i _, by simpa using h2, fun l hl' => ?_, fun l hl' hl2 => ?_⟩, q.gb.other (q.gb.ne h1 (by decide)) i _, q.gn, ?_, fun j hj => (q.sw j hj).set h1 (by decide) (.inl fun p hp e => ?_), q.xo, q.xw⟩
  · by_cases e : l = i
    · subst e
      exact ⟨kb, by rw [Array.getElem?_setIfInBounds_self_of_lt (by omega)], hk.other (hk.ne h1 (by decide)) l _⟩
    · obtain ⟨kb', h5, h6⟩ := h3 l (by omega)
      exact ⟨kb', by rw [Array.getElem?_setIfInBounds_ne (by omega)]; exact h5, h6.other (h6.ne h1 (by decide)) i _⟩
  · rw [Array.getElem?_setIfInBounds_ne (by omega)]
    exact h4 l (by omega) hl2
  · exact q.ow.kept (grownBy_set wq xl i _) (owns_ne q.ow h1 (by decide))
  · rw [← e] at q
    exact q.xo (lbOf_mem hp.le)
theorem Blk.grow {w w' : World} {b : Nat} {cs : Array Value} {T : TypeId} {r : Option Nat} (h : Blk w b cs T) (hg : w.grownBy w' r) (hn : r ≠ some b) : Blk w' b cs T := (hg.block b h.lt (fun e => hn e.symm)).trans h
theorem SwAt.grow {w w' : World} {hl : Nat} {N : List Nd} {m : Nat} {g : Nat → Option Nat} {i : Nat} {z : Sw} {hb : Nat} {r : Option Nat} (h : SwAt w hl N m g i z) (hg : w.grownBy w' r) (hr : ∀ b cs T, T ≠ 144 → Blk w b cs T → r ≠ some b) {f : Nat → Nat → Option Nat} (hs : SkF w hb hl N f) (hi : i < 16) : SwAt w' hl N m g i z := by
  obtain ⟨p, f', t, e, h1, h2, h3, ⟨x, h4⟩, h5⟩ := h
  obtain ⟨ds, g5, g6⟩ := hs.lb hi h2
  have h7 : ds[i]? = some (ptr1 f') := by
    have h8 : w.cell? ⟨lbOf hl N p, i, none⟩ = some ds[i] := g5.cell (Array.getElem?_eq_getElem g6)
    rw [h3] at h8
    injection h8 with h8
    rw [h8]
    exact Array.getElem?_eq_getElem g6
  exact ⟨p, f', t, e, h1, h2, (g5.grow hg (hr _ _ _ (by decide) g5)).cell h7, ⟨x, h4.grow hg (hr _ _ _ (by decide) h4)⟩, h5.grow hg (hr _ _ _ (by decide) h5)⟩
/-- a swing more -/
theorem AddS.next {w wq w' : World} {hl : Nat} {N : List Nd} {m xn xl h g : Nat} {c : Int} {A : Array Value} {ls ls' : Value} {S : List Sw} {i : Nat} {z : Sw} {hb : Nat} {f : Nat → Nat → Option Nat} (q : AddS w wq hl N m xn xl h g c A ls S i) (hs : SkF wq hb hl N f) (hi : S.length < 16) (hz : SwAt wq hl N m (fun _ => some xn) S.length z)
    (h1 : w'.ownsRow w.heap.size 144 3 ls' (S.length + 1) (S.flatMap swC ++ swC z)) (h2 : (wq.alloc (.cells (swC z).toArray 144)).grownBy w' ls.ownBlock) :
    AddS w (w'.setCell ⟨g, 3, none⟩ ls') hl N m xn xl h g c A ls' (S ++ [z]) i := by
  obtain ⟨aX, aB, aS⟩ := blk_new wq (swC z).toArray 144
  have q1 := q.keep aB
  have hs1 := hs.on aB
  have hz1 := hz.on aB
  generalize (wq.alloc (.cells (swC z).toArray 144)) = w1 at *
  have hr : ∀ b cs T, T ≠ 144 → Blk w1 b cs T → ls.ownBlock ≠ some b := by
    intro b cs T hT hx e
    rcases owns_ne q1.ow hx (Ne.symm hT) with h9 | h9
    · rw [h9] at e; cases e
    · exact h9 e
  have hg := q1.gb.grow h2 (hr _ _ _ (by decide) q1.gb)
  obtain ⟨cs, x1, x2, x3, x4⟩ := q1.xc
  have x1' := x1.grow h2 (hr _ _ _ (by decide) x1)
  have pb' := q1.pb.grow h2 (hr _ _ _ (by decide) q1.pb)
  have hfr : Frm w w' (one1 xl) := q1.fr.trans (Frm.of_grown (F := fun k => ls.ownBlock = some k) h2 (fun k e => .inl e)) (fun k e => by
    right
    rcases q1.ow.2 with ⟨e1, _⟩ | ⟨g', cap, cur, e1, hB, _⟩
    · rw [e1] at e; cases e
    · rw [e1] at e
      simp only [Value.ownBlock, Option.some.injEq] at e
      omega)
  have hlw : ∀ j (hj : j < (S ++ [z]).length), SwAt w' hl N m (fun _ => some xn) j (S ++ [z])[j] := by
    intro j hj
    rw [List.length_append, List.length_singleton] at hj
    rcases Nat.lt_or_ge j S.length with h9 | h9
    · rw [List.getElem_append_left h9]
      exact (q1.sw j h9).grow h2 hr hs1 (by omega)
    · have e : j = S.length := by omega
      subst e
      rw [List.getElem_append_right (Nat.le_refl _)]
      simp only [Nat.sub_self, List.getElem_singleton]
      exact hz1.grow h2 hr hs1 hi
  refine ⟨hfr.trans (frm_set w' g 3 _ (F := one1 g) (.inl rfl)) (fun k hk => .inr (by have e : k = g := hk; rw [e]; exact q.gn)), pb'.other (pb'.ne hg (by decide)) 3 _, ⟨cs, x1'.other (x1'.ne hg (by decide)) 3 _, x2, fun l hl' => ?_, x4⟩, hg.set 3 ls', q.gn, ?_, fun j hj => (hlw j hj).set hg (by decide) (.inl fun p hp e => ?_), q.xo, q.xw⟩
  · obtain ⟨kb, h5, h6⟩ := x3 l hl'
    have h7 := h6.grow h2 (hr _ _ _ (by decide) h6)
    exact ⟨kb, h5, h7.other (h7.ne hg (by decide)) 3 _⟩
  · show World.ownsRow _ _ _ _ _ _ _
    rw [show (S ++ [z]).length = S.length + 1 by simp, show (S ++ [z]).flatMap swC = S.flatMap swC ++ swC z by simp]
    exact h1.kept (grownBy_set w' g 3 _) (owns_ne h1 hg (by decide))
  · obtain ⟨ds, g5, _⟩ := hs1.lb (by have := hj; rw [List.length_append, List.length_singleton] at this; omega) hp
    exact g5.ne q1.gb (by decide) e

end Go.Proofs.Ytojfohpnfciajaa
