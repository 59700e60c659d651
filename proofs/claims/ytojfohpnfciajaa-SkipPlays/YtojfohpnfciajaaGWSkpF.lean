/- Layer 12: nodes in memory, with whatever links; a link is moved, a value; a node comes, or goes. -/
import Derived.Test.YtojfohpnfciajaaGWSkp4
namespace Go.Proofs.Ytojfohpnfciajaa
open Go.RowKit
set_option maxRecDepth 100000

theorem Blk.ne {w : World} {a b : Nat} {cs ds : Array Value} {T S : TypeId} (h : Blk w a cs T) (h' : Blk w b ds S) (hn : T ≠ S) : a ≠ b := by
  intro e
  subst e
  unfold Blk at h h'
  rw [h] at h'
  injection h' with h'
  injection h' with _ h'
  exact hn h'
theorem Blk.eq {w : World} {a : Nat} {cs ds : Array Value} {T S : TypeId} (h : Blk w a cs T) (h' : Blk w a ds S) : cs = ds := by
  unfold Blk at h h'
  rw [h] at h'
  injection h' with h'
  injection h' with h'
/-- a place's links -/
def lbOf (hl : Nat) (N : List Nd) (p : Nat) : Nat := match p with
  | 0 => hl
  | i + 1 => (N[i]?.map Nd.lb).getD hl
theorem lbOf_at (hl : Nat) {N : List Nd} {i : Nat} (hi : i < N.length) : lbOf hl N (i + 1) = N[i].lb := by
  simp [lbOf, List.getElem?_eq_getElem hi]
/-- a node's cells -/
abbrev ndC (x : Nd) : Array Value := #[.string x.e.k, ptr1 x.vb, .slice (some ⟨x.lb, 0, none⟩) x.e.h x.e.h]
/-- NODES IN MEMORY, whatever their links lead to. -/
structure SkF (w : World) (hb hl : Nat) (N : List Nd) (f : Nat → Nat → Option Nat) : Prop where
  hd : ∃ hv, Blk w hb #[.string ⟨#[]⟩, ptr1 hv, .slice (some ⟨hl, 0, none⟩) (16 : Nat) (16 : Nat)] 125
  hlk : ∃ cs, Blk w hl cs 129 ∧ cs.size = 16
  nd : ∀ x ∈ N, Blk w x.nb (ndC x) 125
  lks : ∀ x ∈ N, ∃ cs, Blk w x.lb cs 129 ∧ cs.size = x.e.h
  val : ∀ x ∈ N, Blk w x.vb #[.int .i64 x.e.v] 2
  ht : ∀ x ∈ N, 1 ≤ x.e.h ∧ x.e.h ≤ 16
  one : (hb :: N.map Nd.nb).Nodup
  lone : (hl :: N.map Nd.lb).Nodup
  lk : ∀ p l, l < 16 → OnL l N p → Lnk w (lbOf hl N p) l (f p l)
/-- where they lead -/
def ldF (N : List Nd) (p l : Nat) : Option Nat := tgt l (N.drop p)
theorem nodup_at {l : List Nat} (h : l.Nodup) {i j : Nat} (hi : i < l.length) (hj : j < l.length) (e : l[i] = l[j]) : i = j := by
  rcases Nat.lt_trichotomy i j with h9 | h9 | h9
  · exact absurd e (List.pairwise_iff_getElem.1 h i j hi hj h9)
  · exact h9
  · exact absurd e.symm (List.pairwise_iff_getElem.1 h j i hj hi h9)
theorem SkF.n {w : World} {hb hl : Nat} {N : List Nd} (h : SkF w hb hl N (ldF N)) : SkN w hb hl N := by
  obtain ⟨hv, hd⟩ := h.hd
  refine ⟨Blk.cell (i := 2) hd rfl, fun l hl' => h.lk 0 l hl' (.inl rfl), fun i hi => ?_, fun i hi => h.ht _ (List.getElem_mem hi), fun i hi l hl' => ?_, fun i j hi hj e => ?_, fun i hi e => ?_⟩
  · exact ⟨Blk.cell (i := 0) (h.nd _ (List.getElem_mem hi)) rfl, Blk.cell (i := 2) (h.nd _ (List.getElem_mem hi)) rfl⟩
  · have h1 := h.lk (i + 1) l (by have := (h.ht _ (List.getElem_mem hi)).2; omega) (.inr ⟨hi, hl'⟩)
    rw [lbOf_at hl hi] at h1
    exact h1
  · have := nodup_at h.one (i := i + 1) (j := j + 1) (by simpa using hi) (by simpa using hj) (by simpa using e)
    omega
  · have := nodup_at h.one (i := i + 1) (j := 0) (by simpa using hi) (by simp) (by simpa using e)
    omega
theorem SkF.on {w w' : World} {hb hl : Nat} {N : List Nd} {f : Nat → Nat → Option Nat} (h : SkF w hb hl N f) (hB : Below w.heap.size w w') : SkF w' hb hl N f := by
  obtain ⟨hv, hd⟩ := h.hd
  obtain ⟨cs, hk, hs⟩ := h.hlk
  refine ⟨⟨hv, hd.on hB⟩, ⟨cs, hk.on hB, hs⟩, fun x hx => (h.nd x hx).on hB, fun x hx => ?_, fun x hx => (h.val x hx).on hB, h.ht, h.one, h.lone, fun p l h1 h2 => (h.lk p l h1 h2).on hB⟩
  obtain ⟨cs, h1, h2⟩ := h.lks x hx
  exact ⟨cs, h1.on hB, h2⟩
/-- the block of a place's links -/
theorem SkF.lb {w : World} {hb hl : Nat} {N : List Nd} {f : Nat → Nat → Option Nat} (h : SkF w hb hl N f) {l p : Nat} (hl' : l < 16) (ho : OnL l N p) : ∃ cs, Blk w (lbOf hl N p) cs 129 ∧ l < cs.size := by
  cases p with
  | zero =>
    obtain ⟨cs, hk, hs⟩ := h.hlk
    exact ⟨cs, hk, by omega⟩
  | succ i =>
    rcases ho with h0 | ⟨hi, h1⟩
    · omega
    · have hi' : i < N.length := hi
      have h1' : l < N[i].e.h := h1
      obtain ⟨cs, h2, h3⟩ := h.lks _ (List.getElem_mem hi')
      rw [lbOf_at hl hi']
      exact ⟨cs, h2, by omega⟩
theorem SkF.lb_one {w : World} {hb hl : Nat} {N : List Nd} {f : Nat → Nat → Option Nat} (h : SkF w hb hl N f) {p q : Nat} (hp : p ≤ N.length) (hq : q ≤ N.length) (e : lbOf hl N p = lbOf hl N q) : p = q := by
  have key : ∀ (p : Nat) (hp : p ≤ N.length), lbOf hl N p = (hl :: N.map Nd.lb)[p]'(by simp; omega) := by
    intro p hp
    cases p with
    | zero => rfl
    | succ i => rw [lbOf_at hl hp]; simp
  rw [key p hp, key q hq] at e
  exact nodup_at h.lone (by simp; omega) (by simp; omega) e
theorem OnL.le {l : Nat} {N : List Nd} {p : Nat} (h : OnL l N p) : p ≤ N.length := by
  rcases h with h | ⟨h, _⟩ <;> omega
/-- blocks that are none of the nodes' -/
def OffS (w : World) (F : Nat → Prop) : Prop := ∀ k cs T, F k → Blk w k cs T → T ≠ 125 ∧ T ≠ 129 ∧ T ≠ 132 ∧ T ≠ 2
theorem SkF.frm {w w' : World} {hb hl : Nat} {N : List Nd} {f : Nat → Nat → Option Nat} {F : Nat → Prop} (h : SkF w hb hl N f) (hf : Frm w w' F) (ho : OffS w F) : SkF w' hb hl N f := by
  obtain ⟨hv, hd⟩ := h.hd
  obtain ⟨cs, hk, hs⟩ := h.hlk
  have kN : ∀ {b cs}, Blk w b cs 125 → Blk w' b cs 125 := fun hx => hx.frm hf (fun hF => (ho _ _ _ hF hx).1 rfl)
  have kA : ∀ {b cs}, Blk w b cs 129 → Blk w' b cs 129 := fun hx => hx.frm hf (fun hF => (ho _ _ _ hF hx).2.1 rfl)
  refine ⟨⟨hv, kN hd⟩, ⟨cs, kA hk, hs⟩, fun x hx => kN (h.nd x hx), fun x hx => ?_, fun x hx => (h.val x hx).frm hf (fun hF => (ho _ _ _ hF (h.val x hx)).2.2.2 rfl), h.ht, h.one, h.lone, fun p l h1 h2 => ?_⟩
  · obtain ⟨cs, h1, h2⟩ := h.lks x hx
    exact ⟨cs, kA h1, h2⟩
  · obtain ⟨kb, h3, h4⟩ := h.lk p l h1 h2
    obtain ⟨ds, h5, h6⟩ := h.lb h1 h2
    have h7 : ds[l]? = some (ptr1 kb) := by
      have h8 : w.cell? ⟨lbOf hl N p, l, none⟩ = some ds[l] := h5.cell (Array.getElem?_eq_getElem h6)
      rw [h3] at h8
      injection h8 with h8
      rw [h8]
      exact Array.getElem?_eq_getElem h6
    exact ⟨kb, (kA h5).cell h7, h4.frm hf (fun hF => (ho _ _ _ hF h4).2.2.1 rfl)⟩
/-- a link is moved -/
theorem SkF.link {w : World} {hb hl : Nat} {N : List Nd} {f : Nat → Nat → Option Nat} (h : SkF w hb hl N f) {p l kb : Nat} {t : Option Nat} (hl' : l < 16) (ho : OnL l N p) (hk : Blk w kb #[ptrO t] 132) :
    SkF (w.setCell ⟨lbOf hl N p, l, none⟩ (ptr1 kb)) hb hl N (fun q i => if q = p ∧ i = l then t else f q i) := by
  obtain ⟨hv, hd⟩ := h.hd
  obtain ⟨cs, hkk, hs⟩ := h.hlk
  obtain ⟨ds, h5, h6⟩ := h.lb hl' ho
  have kA : ∀ {b cs n}, Blk w b cs 129 → cs.size = n → ∃ cs', Blk (w.setCell ⟨lbOf hl N p, l, none⟩ (ptr1 kb)) b cs' 129 ∧ cs'.size = n := by
    intro b cs n hx hn
    by_cases e : b = lbOf hl N p
    · subst e
      exact ⟨_, hx.set l _, by simpa using hn⟩
    · exact ⟨_, hx.other e l _, hn⟩
  refine ⟨⟨hv, hd.other (hd.ne h5 (by decide)) l _⟩, kA hkk hs, fun x hx => (h.nd x hx).other ((h.nd x hx).ne h5 (by decide)) l _, fun x hx => ?_, fun x hx => (h.val x hx).other ((h.val x hx).ne h5 (by decide)) l _, h.ht, h.one, h.lone, fun q i h1 h2 => ?_⟩
  · obtain ⟨cs, h1, h2⟩ := h.lks x hx
    exact kA h1 h2
  · by_cases e : q = p ∧ i = l
    · obtain ⟨rfl, rfl⟩ := e
      rw [if_pos ⟨rfl, rfl⟩]
      exact ⟨kb, (h5.set i (ptr1 kb)).cell (by rw [Array.getElem?_setIfInBounds_self_of_lt h6]), hk.other (hk.ne h5 (by decide)) i _⟩
    · rw [if_neg e]
      obtain ⟨kc, h3, h4⟩ := h.lk q i h1 h2
      obtain ⟨es, g5, g6⟩ := h.lb h1 h2
      have h7 : es[i]? = some (ptr1 kc) := by
        have h8 : w.cell? ⟨lbOf hl N q, i, none⟩ = some es[i] := g5.cell (Array.getElem?_eq_getElem g6)
        rw [h3] at h8
        injection h8 with h8
        rw [h8]
        exact Array.getElem?_eq_getElem g6
      refine ⟨kc, ?_, h4.other (h4.ne h5 (by decide)) l _⟩
      by_cases e2 : lbOf hl N q = lbOf hl N p
      · have e3 : q = p := h.lb_one h2.le ho.le e2
        subst e3
        have e4 : l ≠ i := fun e4 => e ⟨rfl, e4.symm⟩
        exact (g5.set l (ptr1 kb)).cell (by rw [Array.getElem?_setIfInBounds_ne e4]; exact h7)
      · exact (g5.other e2 l _).cell h7
theorem tgt_app (l : Nat) (A B : List Nd) : tgt l (A ++ B) = (tgt l A).or (tgt l B) := by
  unfold tgt
  rw [List.find?_append]
  cases A.find? (fun x => decide (l < x.e.h)) <;> simp
theorem tgt_cons (l : Nat) (x : Nd) (B : List Nd) : tgt l (x :: B) = if l < x.e.h then some x.nb else tgt l B := by
  unfold tgt
  rw [List.find?_cons]
  by_cases h : l < x.e.h
  · simp [h]
  · simp [h]
theorem tgt_none {l : Nat} {A : List Nd} (h : ∀ x ∈ A, ¬ l < x.e.h) : tgt l A = none := by
  unfold tgt
  rw [List.find?_eq_none.2 (fun x hx => by simpa using h x hx)]
  rfl
/-- the last one ahead of m on a level: nothing lies between -/
theorem last_none {l m p : Nat} {N : List Nd} (h : LastL l m (ensN N) p) : tgt l ((N.take m).drop p) = none := by
  refine tgt_none (fun x hx hl => ?_)
  obtain ⟨i, hi, rfl⟩ := List.getElem_of_mem hx
  rw [List.length_drop, List.length_take] at hi
  rw [List.getElem_drop, List.getElem_take] at hl
  exact h.no (p + i) N[p + i].e (by omega) (by omega) (by rw [ensN, List.getElem?_map, List.getElem?_eq_getElem (by omega)]; rfl) hl
theorem not_last {l m p : Nat} {N : List Nd} (hm : m ≤ N.length) (ho : OnL l N p) (hp : p ≤ m) (h : ¬ LastL l m (ensN N) p) : ∃ y, tgt l ((N.take m).drop p) = some y := by
  cases e : tgt l ((N.take m).drop p) with
  | some y => exact ⟨y, rfl⟩
  | none =>
    exfalso
    refine h ⟨hp, ?_, fun i e' h1 h2 h3 hl => ?_⟩
    · rcases ho with h0 | ⟨hi, h1⟩
      · exact .inl h0
      · exact .inr ⟨N[p - 1].e, by simp [ensN, hi], h1⟩
    · unfold tgt at e
      simp only [Option.map_eq_none_iff, List.find?_eq_none] at e
      have hi : i < N.length := by omega
      have h4 : (ensN N)[i]? = some N[i].e := by simp [ensN, hi]
      rw [h4] at h3
      injection h3 with h3
      subst h3
      refine e N[i] ?_ (by simpa using hl)
      rw [List.mem_iff_getElem]
      exact ⟨i - p, by rw [List.length_drop, List.length_take]; omega, by rw [List.getElem_drop, List.getElem_take]; congr 1; omega⟩
theorem drop_split {N : List Nd} {p m : Nat} (hp : p ≤ m) (hm : m ≤ N.length) : N.drop p = (N.take m).drop p ++ N.drop m := by
  conv => lhs; rw [← List.take_append_drop m N]
  rw [List.drop_append_of_le_length (by rw [List.length_take]; omega)]
/-- nodes are the same but for those that a list lacks -/
def insN (N : List Nd) (m : Nat) (X : Nd) : List Nd := N.take m ++ X :: N.drop m
theorem insN_len {N : List Nd} {m : Nat} {X : Nd} (hm : m ≤ N.length) : (insN N m X).length = N.length + 1 := by
  unfold insN
  rw [List.length_append, List.length_take, List.length_cons, List.length_drop]
  omega
theorem insN_lt {N : List Nd} {m : Nat} {X : Nd} {i : Nat} (hm : m ≤ N.length) (hi : i < m) : (insN N m X)[i]? = N[i]? := by
  unfold insN
  rw [List.getElem?_append_left (by rw [List.length_take]; omega), List.getElem?_take_of_lt hi]
theorem insN_at {N : List Nd} {m : Nat} {X : Nd} (hm : m ≤ N.length) : (insN N m X)[m]? = some X := by
  unfold insN
  rw [List.getElem?_append_right (by rw [List.length_take]; omega), List.length_take, show m - min m N.length = 0 by omega]
  rfl
theorem insN_gt {N : List Nd} {m : Nat} {X : Nd} {i : Nat} (hm : m ≤ N.length) (hi : m ≤ i) : (insN N m X)[i + 1]? = N[i]? := by
  unfold insN
  rw [List.getElem?_append_right (by rw [List.length_take]; omega), List.length_take, show i + 1 - min m N.length = (i - m) + 1 by omega, List.getElem?_cons_succ, List.getElem?_drop, show m + (i - m) = i by omega]
theorem onL_iff {l : Nat} {N : List Nd} {p : Nat} : OnL l N p ↔ p = 0 ∨ ∃ x, N[p - 1]? = some x ∧ l < x.e.h := by
  constructor
  · rintro (h | ⟨hi, h⟩)
    · exact .inl h
    · exact .inr ⟨_, List.getElem?_eq_getElem hi, h⟩
  · rintro (h | ⟨x, hx, h⟩)
    · exact .inl h
    · obtain ⟨hi, e⟩ := List.getElem?_eq_some_iff.1 hx
      exact .inr ⟨hi, by rw [e]; exact h⟩
theorem mem_ins {N : List Nd} {m : Nat} {X x : Nd} (h : x ∈ insN N m X) : x = X ∨ x ∈ N := by
  unfold insN at h
  rcases List.mem_append.1 h with h | h
  · exact .inr (List.mem_of_mem_take h)
  · rcases List.mem_cons.1 h with h | h
    · exact .inl h
    · exact .inr (List.mem_of_mem_drop h)
theorem nodup_ins {g : Nd → Nat} {a : Nat} {N : List Nd} {m : Nat} {X : Nd} (h : (a :: N.map g).Nodup) (hX : g X ∉ a :: N.map g) : (a :: (insN N m X).map g).Nodup := by
  unfold insN
  rw [List.map_append, List.map_cons]
  have hp : (a :: (List.map g (N.take m) ++ g X :: List.map g (N.drop m))).Perm (g X :: a :: N.map g) := by
    have h1 : (List.map g (N.take m) ++ g X :: List.map g (N.drop m)).Perm (g X :: (List.map g (N.take m) ++ List.map g (N.drop m))) := List.perm_middle
    rw [← List.map_append, List.take_append_drop] at h1
    exact (h1.cons a).trans (List.Perm.swap _ _ _)
  exact hp.nodup_iff.2 (List.nodup_cons.2 ⟨hX, h⟩)
/-- A NODE COMES: all that led past its place leads to it. -/
theorem SkF.ins {w : World} {hb hl : Nat} {N : List Nd} {m : Nat} {X : Nd} {f : Nat → Nat → Option Nat} (h : SkF w hb hl N f) (hm : m ≤ N.length)
    (hf1 : ∀ p l, OnL l N p → l < X.e.h → LastL l m (ensN N) p → f p l = some X.nb) (hf2 : ∀ p l, OnL l N p → ¬ (l < X.e.h ∧ LastL l m (ensN N) p) → f p l = ldF N p l)
    (x1 : Blk w X.nb (ndC X) 125) (x2 : ∃ cs, Blk w X.lb cs 129 ∧ cs.size = X.e.h) (x3 : Blk w X.vb #[.int .i64 X.e.v] 2) (x4 : 1 ≤ X.e.h ∧ X.e.h ≤ 16)
    (x5 : X.nb ∉ hb :: N.map Nd.nb) (x6 : X.lb ∉ hl :: N.map Nd.lb) (x7 : ∀ l, l < X.e.h → Lnk w X.lb l (tgt l (N.drop m))) : SkF w hb hl (insN N m X) (ldF (insN N m X)) := by
  refine ⟨h.hd, h.hlk, fun x hx => ?_, fun x hx => ?_, fun x hx => ?_, fun x hx => ?_, nodup_ins h.one x5, nodup_ins h.lone x6, fun p l h1 h2 => ?_⟩
  · rcases mem_ins hx with rfl | hx
    · exact x1
    · exact h.nd x hx
  · rcases mem_ins hx with rfl | hx
    · exact x2
    · exact h.lks x hx
  · rcases mem_ins hx with rfl | hx
    · exact x3
    · exact h.val x hx
  · rcases mem_ins hx with rfl | hx
    · exact x4
    · exact h.ht x hx
  · have hlen := insN_len (X := X) hm
    have hp := h2.le
    rcases Nat.lt_trichotomy p (m + 1) with hpm | hpm | hpm
    · have hon : OnL l N p := by
        rw [onL_iff] at h2 ⊢
        rcases h2 with h2 | ⟨x, hx, h3⟩
        · exact .inl h2
        · rcases Nat.eq_zero_or_pos p with h0 | h0
          · exact .inl h0
          · exact .inr ⟨x, by rw [← hx, insN_lt hm (by omega)], h3⟩
      have hlb : lbOf hl (insN N m X) p = lbOf hl N p := by
        cases p with
        | zero => rfl
        | succ i => simp only [lbOf]; rw [insN_lt hm (by omega)]
      have hdr : (insN N m X).drop p = (N.take m).drop p ++ X :: N.drop m := by
        unfold insN
        rw [List.drop_append_of_le_length (by rw [List.length_take]; omega)]
      have h3 := h.lk p l h1 hon
      rw [hlb]
      unfold ldF
      rw [hdr, tgt_app, tgt_cons]
      by_cases hL : LastL l m (ensN N) p
      · rw [last_none hL, Option.none_or]
        by_cases hx : l < X.e.h
        · rw [if_pos hx, ← hf1 p l hon hx hL]
          exact h3
        · rw [if_neg hx]
          rw [hf2 p l hon (fun e => hx e.1)] at h3
          unfold ldF at h3
          rw [drop_split (by omega) hm, tgt_app, last_none hL, Option.none_or] at h3
          exact h3
      · obtain ⟨y, hy⟩ := not_last hm hon (by omega) hL
        rw [hf2 p l hon (fun e => hL e.2)] at h3
        unfold ldF at h3
        rw [drop_split (by omega) hm, tgt_app, hy, Option.some_or] at h3
        rw [hy, Option.some_or]
        exact h3
    · subst hpm
      have hxh : l < X.e.h := by
        rw [onL_iff] at h2
        rcases h2 with h2 | ⟨x, hx, h3⟩
        · omega
        · rw [show m + 1 - 1 = m from rfl, insN_at hm] at hx
          cases hx
          exact h3
      have hlb : lbOf hl (insN N m X) (m + 1) = X.lb := by simp only [lbOf]; rw [insN_at hm]; rfl
      have hdr : (insN N m X).drop (m + 1) = N.drop m := by
        unfold insN
        rw [List.drop_append, List.length_take, show m + 1 - min m N.length = 1 by omega, List.drop_eq_nil_of_le (by rw [List.length_take]; omega)]
        rfl
      rw [hlb]
      unfold ldF
      rw [hdr]
      exact x7 l hxh
    · obtain ⟨q, rfl⟩ : ∃ q, p = q + 2 := ⟨p - 2, by omega⟩
      have hon : OnL l N (q + 1) := by
        rw [onL_iff] at h2 ⊢
        rcases h2 with h2 | ⟨x, hx, h3⟩
        · omega
        · refine .inr ⟨x, ?_, h3⟩
          rw [show q + 2 - 1 = q + 1 from rfl, insN_gt hm (by omega)] at hx
          exact hx
      have hlb : lbOf hl (insN N m X) (q + 2) = lbOf hl N (q + 1) := by simp only [lbOf]; rw [insN_gt hm (by omega)]
      have hdr : (insN N m X).drop (q + 2) = N.drop (q + 1) := by
        unfold insN
        rw [List.drop_append, List.length_take, show q + 2 - min m N.length = (q + 1 - m) + 1 by omega, List.drop_eq_nil_of_le (by rw [List.length_take]; omega), List.drop_succ_cons, List.drop_drop, show m + (q + 1 - m) = q + 1 by omega]
        rfl
      have h3 := h.lk (q + 1) l h1 hon
      rw [hf2 (q + 1) l hon (fun e => by have := e.2.le; omega)] at h3
      rw [hlb]
      unfold ldF at h3 ⊢
      rw [hdr]
      exact h3
/-- A NODE GOES: all that led to it leads to what is behind it. -/
theorem SkF.del {w : World} {hb hl : Nat} {N : List Nd} {m : Nat} {f : Nat → Nat → Option Nat} (h : SkF w hb hl N f) (hm : m < N.length)
    (hf1 : ∀ p l, OnL l N p → l < N[m].e.h → LastL l m (ensN N) p → f p l = tgt l (N.drop (m + 1))) (hf2 : ∀ p l, OnL l N p → ¬ (l < N[m].e.h ∧ LastL l m (ensN N) p) → f p l = ldF N p l) : SkF w hb hl (N.eraseIdx m) (ldF (N.eraseIdx m)) := by
  have hsub : ∀ x, x ∈ N.eraseIdx m → x ∈ N := fun x hx => (List.eraseIdx_sublist N m).subset hx
  refine ⟨h.hd, h.hlk, fun x hx => h.nd x (hsub x hx), fun x hx => h.lks x (hsub x hx), fun x hx => h.val x (hsub x hx), fun x hx => h.ht x (hsub x hx), h.one.sublist (((List.eraseIdx_sublist N m).map _).cons_cons _), h.lone.sublist (((List.eraseIdx_sublist N m).map _).cons_cons _), fun p l h1 h2 => ?_⟩
  have hlen : (N.eraseIdx m).length = N.length - 1 := by rw [List.length_eraseIdx_of_lt hm]
  have hp := h2.le
  have hE : N.eraseIdx m = N.take m ++ N.drop (m + 1) := List.eraseIdx_eq_take_drop_succ N m
  have hM : N.drop m = N[m] :: N.drop (m + 1) := List.drop_eq_getElem_cons hm
  rcases Nat.lt_or_ge m p with hpm | hpm
  · obtain ⟨q, rfl⟩ : ∃ q, p = q + 1 := ⟨p - 1, by omega⟩
    have hat : (N.eraseIdx m)[q]? = N[q + 1]? := by rw [List.getElem?_eraseIdx, if_neg (by omega)]
    have hon : OnL l N (q + 2) := by
      rw [onL_iff] at h2 ⊢
      rcases h2 with h2 | ⟨x, hx, h3⟩
      · omega
      · refine .inr ⟨x, ?_, h3⟩
        rw [show q + 1 - 1 = q from rfl, hat] at hx
        exact hx
    have hlb : lbOf hl (N.eraseIdx m) (q + 1) = lbOf hl N (q + 2) := by simp only [lbOf]; rw [hat]
    have hdr : (N.eraseIdx m).drop (q + 1) = N.drop (q + 2) := by
      rw [hE, List.drop_append, List.length_take, List.drop_eq_nil_of_le (by rw [List.length_take]; omega), List.drop_drop, show m + 1 + (q + 1 - min m N.length) = q + 2 by omega]
      rfl
    have h3 := h.lk (q + 2) l h1 hon
    rw [hf2 (q + 2) l hon (fun e => by have := e.2.le; omega)] at h3
    rw [hlb]
    unfold ldF at h3 ⊢
    rw [hdr]
    exact h3
  · have hon : OnL l N p := by
      rw [onL_iff] at h2 ⊢
      rcases h2 with h2 | ⟨x, hx, h3⟩
      · exact .inl h2
      · rcases Nat.eq_zero_or_pos p with h0 | h0
        · exact .inl h0
        · refine .inr ⟨x, ?_, h3⟩
          rw [List.getElem?_eraseIdx, if_pos (by omega)] at hx
          exact hx
    have hlb : lbOf hl (N.eraseIdx m) p = lbOf hl N p := by
      cases p with
      | zero => rfl
      | succ i => simp only [lbOf]; rw [List.getElem?_eraseIdx, if_pos (by omega)]
    have hdr : (N.eraseIdx m).drop p = (N.take m).drop p ++ N.drop (m + 1) := by rw [hE, List.drop_append_of_le_length (by rw [List.length_take]; omega)]
    have h3 := h.lk p l h1 hon
    rw [hlb]
    unfold ldF
    rw [hdr, tgt_app]
    by_cases hL : LastL l m (ensN N) p
    · rw [last_none hL, Option.none_or]
      by_cases hx : l < N[m].e.h
      · rw [← hf1 p l hon hx hL]
        exact h3
      · rw [hf2 p l hon (fun e => hx e.1)] at h3
        unfold ldF at h3
        rw [drop_split hpm (by omega), tgt_app, last_none hL, Option.none_or, hM, tgt_cons, if_neg hx] at h3
        exact h3
    · obtain ⟨y, hy⟩ := not_last (by omega) hon hpm hL
      rw [hf2 p l hon (fun e => hL e.2)] at h3
      unfold ldF at h3
      rw [drop_split hpm (by omega), tgt_app, hy, Option.some_or] at h3
      rw [hy, Option.some_or]
      exact h3
/-- a node with another value -/
abbrev valN (x : Nd) (v : Int) (vb : Nat) : Nd := ⟨⟨x.e.k, v, x.e.h⟩, x.nb, vb, x.lb⟩
theorem map_set {g : Nd → Nat} {N : List Nd} {i : Nat} {X : Nd} (hX : ∀ (hi : i < N.length), g X = g N[i]) : (N.set i X).map g = N.map g := by
  refine List.ext_getElem? (fun j => ?_)
  rw [List.getElem?_map, List.getElem?_map, List.getElem?_set]
  split
  · rename_i e
    subst e
    split
    · rename_i hi
      rw [List.getElem?_eq_getElem hi]
      simp [hX hi]
    · rename_i hi
      rw [List.getElem?_eq_none (by omega)]
  · rfl
theorem set_get {N : List Nd} {i : Nat} (hi : i < N.length) (v : Int) (vb : Nat) (j : Nat) : ∃ y : Option Nd, (N.set i (valN N[i] v vb))[j]? = y ∧ y.map Nd.lb = N[j]?.map Nd.lb ∧ y.map (fun x => x.e.h) = N[j]?.map (fun x => x.e.h) ∧ y.map Nd.nb = N[j]?.map Nd.nb := by
  rw [List.getElem?_set]
  by_cases e : i = j
  · subst e
    rw [if_pos rfl, if_pos hi, List.getElem?_eq_getElem hi]
    exact ⟨_, rfl, rfl, rfl, rfl⟩
  · rw [if_neg e]
    exact ⟨_, rfl, rfl, rfl, rfl⟩
theorem set_onL {N : List Nd} {i : Nat} (hi : i < N.length) (v : Int) (vb : Nat) {l p : Nat} : OnL l (N.set i (valN N[i] v vb)) p → OnL l N p := by
  rw [onL_iff, onL_iff]
  rintro (h | ⟨x, hx, h⟩)
  · exact .inl h
  · obtain ⟨y, h1, -, h3, -⟩ := set_get hi v vb (p - 1)
    rw [hx] at h1
    subst h1
    cases e : N[p - 1]? with
    | none => rw [e] at h3; cases h3
    | some z =>
      rw [e] at h3
      injection h3 with h3
      exact .inr ⟨z, rfl, (show x.e.h = z.e.h from h3) ▸ h⟩
theorem set_tgt (l : Nat) : ∀ (N : List Nd) (i : Nat) (X : Nd), (∀ (hi : i < N.length), X.nb = N[i].nb ∧ X.e.h = N[i].e.h) → tgt l (N.set i X) = tgt l N
  | [], _, _, _ => rfl
  | x :: N, 0, X, h => by
    obtain ⟨h1, h2⟩ := h (by simp)
    rw [List.set_cons_zero, tgt_cons, tgt_cons, h1, h2]
    rfl
  | x :: N, i + 1, X, h => by
    rw [List.set_cons_succ, tgt_cons, tgt_cons, set_tgt l N i X (fun hi => h (by simpa using hi))]
theorem set_ldF {N : List Nd} {i : Nat} (hi : i < N.length) (v : Int) (vb : Nat) : ldF (N.set i (valN N[i] v vb)) = ldF N := by
  funext p l
  unfold ldF
  rcases Nat.lt_or_ge i p with h | h
  · rw [List.drop_set_of_lt h]
  · rw [List.drop_set, if_neg (by omega)]
    refine set_tgt l _ _ _ (fun h9 => ?_)
    rw [List.length_drop] at h9
    have e : (N.drop p)[i - p]'(by rw [List.length_drop]; omega) = N[i] := by rw [List.getElem_drop]; congr 1; omega
    rw [e]
    exact ⟨rfl, rfl⟩
/-- A VALUE IS ANOTHER ONE. -/
theorem SkF.value {w : World} {hb hl : Nat} {N : List Nd} {f : Nat → Nat → Option Nat} (h : SkF w hb hl N f) {i : Nat} (hi : i < N.length) {v : Int} {vb : Nat} (hv : Blk w vb #[.int .i64 v] 2) :
    SkF (w.setCell ⟨N[i].nb, 1, none⟩ (ptr1 vb)) hb hl (N.set i (valN N[i] v vb)) f := by
  have hN := h.nd _ (List.getElem_mem hi)
  obtain ⟨h0, hd⟩ := h.hd
  obtain ⟨cs, hkk, hs⟩ := h.hlk
  have hnh : hb ≠ N[i].nb := by
    intro e
    have := nodup_at h.one (i := 0) (j := i + 1) (by simp) (by simpa using hi) (by simpa using e)
    omega
  have hm : ∀ x, x ∈ N.set i (valN N[i] v vb) → x = valN N[i] v vb ∨ (x ∈ N ∧ x.nb ≠ N[i].nb) := by
    intro x hx
    obtain ⟨j, hj, rfl⟩ := List.getElem_of_mem hx
    rw [List.length_set] at hj
    rw [List.getElem_set]
    by_cases e : i = j
    · rw [if_pos e]
      exact .inl rfl
    · rw [if_neg e]
      refine .inr ⟨List.getElem_mem hj, fun e2 => e ?_⟩
      have := nodup_at h.one (i := j + 1) (j := i + 1) (by simpa using hj) (by simpa using hi) (by simpa using e2)
      omega
  refine ⟨⟨h0, hd.other hnh 1 _⟩, ⟨cs, hkk.other (hkk.ne hN (by decide)) 1 _, hs⟩, fun x hx => ?_, fun x hx => ?_, fun x hx => ?_, fun x hx => ?_, ?_, ?_, fun p l h1 h2 => ?_⟩
  · rcases hm x hx with rfl | ⟨hx, hn⟩
    · exact hN.set 1 (ptr1 vb)
    · exact (h.nd x hx).other hn 1 _
  · rcases hm x hx with rfl | ⟨hx, hn⟩
    · obtain ⟨ds, h1, h2⟩ := h.lks _ (List.getElem_mem hi)
      exact ⟨ds, h1.other (h1.ne hN (by decide)) 1 _, h2⟩
    · obtain ⟨ds, h1, h2⟩ := h.lks x hx
      exact ⟨ds, h1.other (h1.ne hN (by decide)) 1 _, h2⟩
  · rcases hm x hx with rfl | ⟨hx, hn⟩
    · exact hv.other (hv.ne hN (by decide)) 1 _
    · exact (h.val x hx).other ((h.val x hx).ne hN (by decide)) 1 _
  · rcases hm x hx with rfl | ⟨hx, hn⟩
    · exact h.ht N[i] (List.getElem_mem hi)
    · exact h.ht x hx
  · rw [map_set (fun _ => rfl)]
    exact h.one
  · rw [map_set (fun _ => rfl)]
    exact h.lone
  · have hon := set_onL hi v vb h2
    have hlb : lbOf hl (N.set i (valN N[i] v vb)) p = lbOf hl N p := by
      cases p with
      | zero => rfl
      | succ j =>
        obtain ⟨y, g1, g2, -, -⟩ := set_get hi v vb j
        simp only [lbOf]
        rw [g1, g2]
    rw [hlb]
    obtain ⟨kc, h3, h4⟩ := h.lk p l h1 hon
    obtain ⟨es, g5, g6⟩ := h.lb h1 hon
    have h7 : es[l]? = some (ptr1 kc) := by
      have h8 : w.cell? ⟨lbOf hl N p, l, none⟩ = some es[l] := g5.cell (Array.getElem?_eq_getElem g6)
      rw [h3] at h8
      injection h8 with h8
      rw [h8]
      exact Array.getElem?_eq_getElem g6
    exact ⟨kc, (g5.other (g5.ne hN (by decide)) 1 _).cell h7, h4.other (h4.ne hN (by decide)) 1 _⟩

end Go.Proofs.Ytojfohpnfciajaa
