/- Layer 13: plain mathematics: ranges that meet, holds in each other's way, takers in a line. -/
import Derived.Test.YtcdamalpecedcaaGreatWU13
namespace Go.Proofs.YtcdamalpecedcaaGreat
set_option maxRecDepth 100000

theorem lt_of_le_of_lt' {a b c : ByteArray} (h1 : ltB b a = false) (h2 : ltB b c = true) : ltB a c = true := by
  cases h : ltB a c with
  | true => rfl
  | false =>
    have := le_trans' h h1
    rw [this] at h2; cases h2
/-- some key is in both -/
def metR (x y : Rg) : Prop := ∃ k, x.has k ∧ y.has k
/-- as the program finds it -/
def meetB : List Rg → List Rg → Bool
  | [], _ => false
  | _ :: _, [] => false
  | x :: A, y :: B => if ltB y.lo x.lo then (if hasB y.lo y.hi y.op x.lo then true else meetB B (x :: A)) else (if hasB x.lo x.hi x.op y.lo then true else meetB A (y :: B))
termination_by a b => a.length + b.length
theorem inL_cons (r : Rg) (L : List Rg) (k : ByteArray) : inL (r :: L) k ↔ (r.has k ∨ inL L k) := by
  constructor
  · rintro ⟨q, hq, hk⟩
    rcases List.mem_cons.1 hq with rfl | hq
    · exact .inl hk
    · exact .inr ⟨q, hq, hk⟩
  · rintro (hk | ⟨q, hq, hk⟩)
    · exact ⟨r, List.mem_cons_self, hk⟩
    · exact ⟨q, List.mem_cons_of_mem _ hq, hk⟩
theorem past {x : Rg} {lo k : ByteArray} (hle : ltB lo x.lo = false) (hn : ¬ x.has lo) (hk : ltB k lo = false) : ¬ x.has k := by
  intro h
  refine hn ⟨hle, ?_⟩
  rcases h.2 with h1 | h1
  · exact .inl h1
  · exact .inr (lt_of_le_of_lt' hk h1)
theorem meetB_iff : ∀ (n : Nat) (A B : List Rg), A.length + B.length ≤ n → Sep A → Sep B → (meetB A B = true ↔ ∃ k, inL A k ∧ inL B k)
  | n, [], B, _, _, _ => by
    unfold meetB
    constructor
    · intro h
      cases h
    · rintro ⟨k, ⟨q, hq, _⟩, _⟩
      cases hq
  | n, x :: A, [], _, _, _ => by
    unfold meetB
    constructor
    · intro h
      cases h
    · rintro ⟨k, _, ⟨q, hq, _⟩⟩
      cases hq
  | 0, x :: A, y :: B, h, _, _ => by simp at h
  | n + 1, x :: A, y :: B, h, hA, hB => by
    unfold meetB
    simp only [List.length_cons] at h
    by_cases hlt : ltB y.lo x.lo = true
    · rw [if_pos hlt]
      by_cases hh : hasB y.lo y.hi y.op x.lo = true
      · rw [if_pos hh]
        exact ⟨fun _ => ⟨x.lo, (inL_cons _ _ _).2 (.inl (some_has (hA.1 x List.mem_cons_self).1)), (inL_cons _ _ _).2 (.inl ((has_iff _ _).2 hh))⟩, fun _ => rfl⟩
      · rw [if_neg hh, meetB_iff n B (x :: A) (by simp only [List.length_cons]; omega) (sep_tail hB) hA]
        have hn : ¬ y.has x.lo := fun h9 => hh ((has_iff _ _).1 h9)
        constructor
        · rintro ⟨k, h1, h2⟩
          exact ⟨k, h2, (inL_cons _ _ _).2 (.inr h1)⟩
        · rintro ⟨k, h1, h2⟩
          rcases (inL_cons _ _ _).1 h2 with h3 | h3
          · exact absurd h3 (past (le_of_lt hlt) hn (lo_le hA h1))
          · exact ⟨k, h3, h1⟩
    · rw [if_neg hlt]
      have hle : ltB y.lo x.lo = false := by simpa using hlt
      by_cases hh : hasB x.lo x.hi x.op y.lo = true
      · rw [if_pos hh]
        exact ⟨fun _ => ⟨y.lo, (inL_cons _ _ _).2 (.inl ((has_iff _ _).2 hh)), (inL_cons _ _ _).2 (.inl (some_has (hB.1 y List.mem_cons_self).1))⟩, fun _ => rfl⟩
      · rw [if_neg hh, meetB_iff n A (y :: B) (by simp only [List.length_cons]; omega) (sep_tail hA) hB]
        have hn : ¬ x.has y.lo := fun h9 => hh ((has_iff _ _).1 h9)
        constructor
        · rintro ⟨k, h1, h2⟩
          exact ⟨k, (inL_cons _ _ _).2 (.inr h1), h2⟩
        · rintro ⟨k, h1, h2⟩
          rcases (inL_cons _ _ _).1 h1 with h3 | h3
          · exact absurd h3 (past hle hn (lo_le hB h2))
          · exact ⟨k, h3, h2⟩
/-- a hold -/
structure Hd where
  r : Rg
  al : Bool
/-- a claim: which keys at all, which alone -/
structure Cl where
  all : List Rg
  alo : List Rg
def alls (H : List Hd) : List Rg := H.map Hd.r
def alos (H : List Hd) : List Rg := (H.filter Hd.al).map Hd.r
structure ClOf (c : Cl) (H : List Hd) : Prop where
  s1 : Sep c.all
  s2 : Sep c.alo
  k1 : ∀ k, inL c.all k ↔ inL (alls H) k
  k2 : ∀ k, inL c.alo k ↔ inL (alos H) k
def wayP (a b : List Hd) : Prop := ∃ x ∈ a, ∃ y ∈ b, (x.al = true ∨ y.al = true) ∧ metR x.r y.r
open Classical in
noncomputable def wayB (a b : List Hd) : Bool := decide (wayP a b)
theorem wayB_iff (a b : List Hd) : wayB a b = true ↔ wayP a b := by
  unfold wayB
  simp
theorem wayP_symm {a b : List Hd} (h : wayP a b) : wayP b a := by
  obtain ⟨x, hx, y, hy, h1, k, h2, h3⟩ := h
  exact ⟨y, hy, x, hx, h1.symm, k, h3, h2⟩
theorem wayB_symm (a b : List Hd) : wayB a b = wayB b a := by
  rw [Bool.eq_iff_iff, wayB_iff, wayB_iff]
  exact ⟨wayP_symm, wayP_symm⟩
def inWayB (a b : Cl) : Bool := meetB a.alo b.all || meetB a.all b.alo
theorem inL_alls (H : List Hd) (k : ByteArray) : inL (alls H) k ↔ ∃ x ∈ H, x.r.has k := by
  constructor
  · rintro ⟨r, hr, hk⟩
    obtain ⟨x, hx, rfl⟩ := List.mem_map.1 hr
    exact ⟨x, hx, hk⟩
  · rintro ⟨x, hx, hk⟩
    exact ⟨x.r, List.mem_map.2 ⟨x, hx, rfl⟩, hk⟩
theorem inL_alos (H : List Hd) (k : ByteArray) : inL (alos H) k ↔ ∃ x ∈ H, x.al = true ∧ x.r.has k := by
  constructor
  · rintro ⟨r, hr, hk⟩
    obtain ⟨x, hx, rfl⟩ := List.mem_map.1 hr
    obtain ⟨h1, h2⟩ := List.mem_filter.1 hx
    exact ⟨x, h1, h2, hk⟩
  · rintro ⟨x, hx, h2, hk⟩
    exact ⟨x.r, List.mem_map.2 ⟨x, List.mem_filter.2 ⟨hx, h2⟩, rfl⟩, hk⟩
theorem inWay_way {a b : Cl} {H G : List Hd} (ha : ClOf a H) (hb : ClOf b G) : inWayB a b = wayB H G := by
  rw [Bool.eq_iff_iff, wayB_iff]
  unfold inWayB
  rw [Bool.or_eq_true, meetB_iff _ _ _ (Nat.le_refl _) ha.s2 hb.s1, meetB_iff _ _ _ (Nat.le_refl _) ha.s1 hb.s2]
  constructor
  · rintro (⟨k, h1, h2⟩ | ⟨k, h1, h2⟩)
    · obtain ⟨x, hx, hxa, hk⟩ := (inL_alos _ _).1 ((ha.k2 k).1 h1)
      obtain ⟨y, hy, hk2⟩ := (inL_alls _ _).1 ((hb.k1 k).1 h2)
      exact ⟨x, hx, y, hy, .inl hxa, k, hk, hk2⟩
    · obtain ⟨x, hx, hk⟩ := (inL_alls _ _).1 ((ha.k1 k).1 h1)
      obtain ⟨y, hy, hya, hk2⟩ := (inL_alos _ _).1 ((hb.k2 k).1 h2)
      exact ⟨x, hx, y, hy, .inr hya, k, hk, hk2⟩
  · rintro ⟨x, hx, y, hy, (h1 | h1), k, h2, h3⟩
    · exact .inl ⟨k, (ha.k2 k).2 ((inL_alos _ _).2 ⟨x, hx, h1, h2⟩), (hb.k1 k).2 ((inL_alls _ _).2 ⟨y, hy, h3⟩)⟩
    · exact .inr ⟨k, (ha.k1 k).2 ((inL_alls _ _).2 ⟨x, hx, h2⟩), (hb.k2 k).2 ((inL_alos _ _).2 ⟨y, hy, h1, h3⟩)⟩
/-- a taker: its ticket, its holds, the tickets of those that stood in its way -/
structure Tk where
  t : Nat
  H : List Hd
  A : List Nat
def tks (L : List Tk) : List Nat := L.map Tk.t
structure InvG (L : List Tk) (nx : Nat) : Prop where
  pos : 1 ≤ nx
  rise : L.Pairwise (fun x y => x.t < y.t)
  lt : ∀ x ∈ L, 1 ≤ x.t ∧ x.t < nx
  ah : ∀ x ∈ L, ∀ a ∈ x.A, a < x.t
  ar : ∀ x ∈ L, x.A.Pairwise (· < ·)
  way : ∀ i (hi : i < L.length), L[i].A.filter (fun a => decide (a ∈ tks L)) = ((L.take i).filter (fun y => wayB y.H L[i].H)).map Tk.t
theorem InvG.nil {nx : Nat} (hp : 1 ≤ nx) : InvG [] nx := ⟨hp, List.Pairwise.nil, fun _ h => (by cases h), fun _ h => (by cases h), fun _ h => (by cases h), fun i hi => absurd hi (by simp)⟩
noncomputable def newT (H : List Hd) (nx : Nat) (L : List Tk) : Tk := ⟨nx, H, (L.filter (fun y => wayB y.H H)).map Tk.t⟩
theorem rise_map {L : List Tk} (h : L.Pairwise (fun x y => x.t < y.t)) : (L.map Tk.t).Pairwise (· < ·) := List.pairwise_map.2 h
theorem InvG.take {L : List Tk} {nx : Nat} (h : InvG L nx) (H : List Hd) : InvG (L ++ [newT H nx L]) (nx + 1) := by
  refine ⟨by omega, ?_, ?_, ?_, ?_, ?_⟩
  · refine List.pairwise_append.2 ⟨h.rise, List.pairwise_singleton _ _, fun a ha b hb => ?_⟩
    rw [List.mem_singleton] at hb
    subst hb
    exact (h.lt a ha).2
  · intro x hx
    rcases List.mem_append.1 hx with hx | hx
    · have := h.lt x hx
      omega
    · rw [List.mem_singleton] at hx
      subst hx
      exact ⟨h.pos, Nat.lt_succ_self _⟩
  · intro x hx a ha
    rcases List.mem_append.1 hx with hx | hx
    · exact h.ah x hx a ha
    · rw [List.mem_singleton] at hx
      subst hx
      obtain ⟨y, hy, rfl⟩ := List.mem_map.1 ha
      exact (h.lt y (List.mem_filter.1 hy).1).2
  · intro x hx
    rcases List.mem_append.1 hx with hx | hx
    · exact h.ar x hx
    · rw [List.mem_singleton] at hx
      subst hx
      exact rise_map (h.rise.sublist List.filter_sublist)
  · intro i hi
    rw [List.length_append, List.length_singleton] at hi
    rcases Nat.lt_or_ge i L.length with h1 | h1
    · rw [List.getElem_append_left h1, List.take_append_of_le_length (by omega), ← h.way i h1]
      apply List.filter_congr
      intro a ha
      have h2 := h.ah L[i] (List.getElem_mem h1) a ha
      have h3 := (h.lt L[i] (List.getElem_mem h1)).2
      unfold tks
      rw [List.map_append, decide_eq_decide]
      simp only [List.mem_append, List.map_cons, List.map_nil, List.mem_singleton, newT]
      constructor
      · rintro (h4 | h4)
        · exact h4
        · omega
      · exact .inl
    · have e : i = L.length := by omega
      subst e
      have e2 : (L ++ [newT H nx L])[L.length] = newT H nx L := by simp
      rw [e2, List.take_append_of_le_length (Nat.le_refl _), List.take_length]
      show ((L.filter (fun y => wayB y.H H)).map Tk.t).filter _ = (L.filter (fun y => wayB y.H H)).map Tk.t
      refine List.filter_eq_self.2 (fun a ha => ?_)
      obtain ⟨y, hy, rfl⟩ := List.mem_map.1 ha
      unfold tks
      simp only [decide_eq_true_eq, List.map_append, List.mem_append]
      exact .inl (List.mem_map.2 ⟨y, (List.mem_filter.1 hy).1, rfl⟩)
theorem InvG.give {L : List Tk} {nx : Nat} (h : InvG L nx) {j : Nat} (hj : j < L.length) : InvG (L.eraseIdx j) nx := by
  have hsub : (L.eraseIdx j).Sublist L := List.eraseIdx_sublist _ _
  refine ⟨h.pos, h.rise.sublist hsub, fun x hx => h.lt x (hsub.mem hx), fun x hx => h.ah x (hsub.mem hx), fun x hx => h.ar x (hsub.mem hx), ?_⟩
  have hmem : ∀ a, a ∈ tks (L.eraseIdx j) ↔ (a ∈ tks L ∧ a ≠ L[j].t) := by
    intro a
    have e : L.eraseIdx j = L.take j ++ L.drop (j + 1) := List.eraseIdx_eq_take_drop_succ _ _
    have e0 : L = L.take j ++ L[j] :: L.drop (j + 1) := by simp
    have hr := h.rise
    rw [e0] at hr
    obtain ⟨_, r2, r3⟩ := List.pairwise_append.1 hr
    obtain ⟨r4, _⟩ := List.pairwise_cons.1 r2
    unfold tks
    rw [e]
    constructor
    · intro ha
      obtain ⟨y, hy, rfl⟩ := List.mem_map.1 ha
      rcases List.mem_append.1 hy with hy | hy
      · refine ⟨List.mem_map.2 ⟨y, List.mem_of_mem_take hy, rfl⟩, ?_⟩
        have := r3 y hy L[j] List.mem_cons_self
        omega
      · refine ⟨List.mem_map.2 ⟨y, List.mem_of_mem_drop hy, rfl⟩, ?_⟩
        have := r4 y hy
        omega
    · rintro ⟨ha, hne⟩
      obtain ⟨y, hy, rfl⟩ := List.mem_map.1 ha
      refine List.mem_map.2 ⟨y, ?_, rfl⟩
      rw [e0] at hy
      rcases List.mem_append.1 hy with hy | hy
      · exact List.mem_append.2 (.inl hy)
      · rcases List.mem_cons.1 hy with rfl | hy
        · exact absurd rfl hne
        · exact List.mem_append.2 (.inr hy)
  -- the filter behind a give: the one that goes is struck
  have key : ∀ (i : Nat) (hi : i < L.length) (M : List Tk), M = ((L.take i).filter (fun y => wayB y.H L[i].H)).filter (fun y => decide (y.t ≠ L[j].t)) → L[i].A.filter (fun a => decide (a ∈ tks (L.eraseIdx j))) = M.map Tk.t := by
    intro i hi M hM
    have e1 : L[i].A.filter (fun a => decide (a ∈ tks (L.eraseIdx j))) = (L[i].A.filter (fun a => decide (a ∈ tks L))).filter (fun a => decide (a ≠ L[j].t)) := by
      rw [List.filter_filter]
      apply List.filter_congr
      intro a _
      rw [Bool.eq_iff_iff]
      simp only [decide_eq_true_eq, Bool.and_eq_true]
      rw [hmem a]
      exact And.comm
    rw [e1, h.way i hi, hM, List.filter_map]
    rfl
  have hin : ∀ (p : Tk → Bool) (i : Nat), (hi : i < (L.eraseIdx j).length) → ((L.eraseIdx j).take i).filter p = ((L.take (if i < j then i else i + 1)).filter p).filter (fun y => decide (y.t ≠ L[j].t)) := by
    intro p i hi
    have e : L.eraseIdx j = L.take j ++ L.drop (j + 1) := List.eraseIdx_eq_take_drop_succ _ _
    have e0 : L = L.take j ++ L[j] :: L.drop (j + 1) := by simp
    have hr := h.rise
    rw [e0] at hr
    obtain ⟨_, r2, r3⟩ := List.pairwise_append.1 hr
    obtain ⟨r4, _⟩ := List.pairwise_cons.1 r2
    by_cases hij : i < j
    · rw [if_pos hij, e, List.take_append_of_le_length (by rw [List.length_take]; omega), List.take_take, Nat.min_eq_left (by omega), eq_comm, List.filter_eq_self]
      intro y hy
      have hy2 := (List.mem_filter.1 hy).1
      have hy3 : y ∈ L.take j := by
        have : (L.take j).take i = L.take i := by rw [List.take_take, Nat.min_eq_left (by omega)]
        rw [← this] at hy2
        exact List.mem_of_mem_take hy2
      have := r3 y hy3 L[j] List.mem_cons_self
      simp only [decide_eq_true_eq]
      omega
    · rw [if_neg hij, e]
      have hl : (L.take j).length = j := by rw [List.length_take]; omega
      have e5 : (L.take j ++ L.drop (j + 1)).take i = L.take j ++ (L.drop (j + 1)).take (i - j) := by
        rw [List.take_append, hl, List.take_of_length_le (by omega)]
      have e6 : L.take (i + 1) = L.take j ++ L[j] :: (L.drop (j + 1)).take (i - j) := by
        conv => lhs; rw [e0]
        rw [List.take_append, hl, List.take_of_length_le (by omega), show i + 1 - j = (i - j) + 1 by omega, List.take_succ_cons]
      rw [e5, e6, List.filter_append, List.filter_append, List.filter_append]
      have a1 : ((L.take j).filter p).filter (fun y => decide (y.t ≠ L[j].t)) = (L.take j).filter p := by
        rw [List.filter_eq_self]
        intro y hy
        have := r3 y (List.mem_filter.1 hy).1 L[j] List.mem_cons_self
        simp only [decide_eq_true_eq]
        omega
      have a2 : (((L.drop (j + 1)).take (i - j)).filter p).filter (fun y => decide (y.t ≠ L[j].t)) = ((L.drop (j + 1)).take (i - j)).filter p := by
        rw [List.filter_eq_self]
        intro y hy
        have := r4 y (List.mem_of_mem_take (List.mem_filter.1 hy).1)
        simp only [decide_eq_true_eq]
        omega
      rw [a1, List.filter_cons]
      split
      · rw [List.filter_cons, if_neg (by simp), a2]
      · rw [a2]
  intro i hi
  have hl : (L.eraseIdx j).length = L.length - 1 := by rw [List.length_eraseIdx, if_pos hj]
  have hx : ∃ hi2 : (if i < j then i else i + 1) < L.length, (L.eraseIdx j)[i] = L[if i < j then i else i + 1] := by
    by_cases hij : i < j
    · refine ⟨by rw [if_pos hij]; omega, ?_⟩
      simp only [if_pos hij]
      rw [List.getElem_eraseIdx, dif_pos hij]
    · refine ⟨by rw [if_neg hij]; omega, ?_⟩
      simp only [if_neg hij]
      rw [List.getElem_eraseIdx, dif_neg hij]
  obtain ⟨hi2, e⟩ := hx
  rw [e, key _ hi2 _ (hin _ i hi)]
end Go.Proofs.YtcdamalpecedcaaGreat
