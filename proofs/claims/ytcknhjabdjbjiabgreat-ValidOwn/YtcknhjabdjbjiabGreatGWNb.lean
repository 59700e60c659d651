/- slices.SortedFunc of what maps.Keys gives. Operations of a map of ranges in a walk; Union of what is owned. unions: the normal spans of spans. -/
import Derived.Test.YtcknhjabdjbjiabGreatGWNa
namespace Go.Proofs.YtcknhjabdjbjiabGreat

section
open Go.Shelf Go.RowKit Go.Lib Go.Sort
set_option maxRecDepth 100000

theorem UpP.ris : ∀ {L : List Pt}, UpP L → L.Nodup → RisP L
  | [], _, _ => List.Pairwise.nil
  | x :: L, hU, hN => by
    obtain ⟨h1, h2⟩ := List.pairwise_cons.1 hU
    obtain ⟨h3, h4⟩ := List.pairwise_cons.1 hN
    refine List.pairwise_cons.2 ⟨fun y hy => ?_, UpP.ris h2 h4⟩
    rcases ltP_tri x y with h | h | h
    · exact h
    · exact absurd h (h3 y hy)
    · rw [h1 y hy] at h; cases h

set_option maxHeartbeats 1000000 in
theorem collect_any (Bm mb : Nat) (E : List (Pt × Value)) (hnd : (E.map (·.1)).Nodup) (hlen : E.length ≤ 65536) (w : World) (hBm : Bm < w.heap.size) (hm : w.cell? ⟨Bm, 0, none⟩ = some (.map (some mb))) (hE : MapV w mb E) :
    Calls Tryz.prog 93 #[.func (.func 94) #[] #[.pointer (some ⟨Bm, 0, none⟩)]] w fun e w' => ∃ (v : Value) (ss : List Pt), e = .returned v ∧ OwnP w' w.heap.size v ss ∧ ss.Nodup ∧ (∀ x, x ∈ ss ↔ x ∈ E.map (·.1)) ∧ ss.length ≤ E.length ∧ RowKit.Below w.heap.size w w' := by
  have C1 : Hid (Calls _ _ _ _ _) := appendSeq_any Bm mb E hnd hlen w hBm hm hE
  go_enter Tryz.func93, Tryz.ntmps93
  go_wp2_with fail
  refine C1.out.mono ?_
  rintro e w1 ⟨v, ss, rfl, h1, h2, h3, h4, h5⟩
  go_wp2_with fail
  go_ret
  exact ⟨v, ss, rfl, h1, h2, h3, h4, h5⟩

set_option maxHeartbeats 4000000 in
theorem sortedF_any (Bm mb : Nat) (E : List (Pt × Value)) (hnd : (E.map (·.1)).Nodup) (hlen : E.length ≤ 65536) (w : World) (hBm : Bm < w.heap.size) (hm : w.cell? ⟨Bm, 0, none⟩ = some (.map (some mb))) (hE : MapV w mb E) :
    Calls Tryz.prog 82 #[.func (.func 94) #[] #[.pointer (some ⟨Bm, 0, none⟩)], .func (.func 62) #[] #[]] w fun e w' => ∃ (v : Value) (R : List Pt), e = .returned v ∧ OwnP w' w.heap.size v R ∧ RisP R ∧ (∀ x, x ∈ R ↔ x ∈ E.map (·.1)) ∧ R.length ≤ E.length ∧ RowKit.Below w.heap.size w w' := by
  haveI : Inhabited Pt := ⟨⟨0, 0, ⟨#[]⟩⟩⟩
  have C1 : Hid (Calls _ _ _ _ _) := collect_any Bm mb E hnd hlen w hBm hm hE
  clear hm hE hBm
  go_enter Tryz.func82, Tryz.ntmps82
  go_wp2_with fail
  refine C1.out.mono ?_
  rintro e w1 ⟨v, ss, rfl, hO, hsn, hsm, hsl, hb1⟩
  have HB1 : Hid (RowKit.Below _ _ _) := hb1
  clear hb1 C1
  rcases hO.form with ⟨rfl, rfl⟩ | ⟨g, cap, rfl, hg1, hg2⟩
  · have C2 : Hid (∀ w1 : World, Calls Tryz.prog 77 #[.slice none 0 0, .func (.func 62) #[] #[]] w1 fun e w' => e = .returned (.tuple #[]) ∧ w' = w1) := fun w1 => sortPN_any _ w1
    go_wp2_with fail
    refine (C2.out _).mono ?_
    rintro e w2 ⟨rfl, h2⟩
    rw [h2]
    clear h2
    go_wp2_with fail
    go_ret
    exact ⟨_, [], rfl, OwnP.nil _ _, List.Pairwise.nil, hsm, Nat.zero_le _, HB1.out⟩
  · have hs0 : ss.toArray.size = ss.length := by simp
    have C3 : Hid (∀ x, x = w1 → Calls _ _ _ _ _) := fun x hx => by subst hx; exact sortP_any g 0 cap ss.toArray x hO.holds hg2 (by rw [hs0]; omega)
    rw [hs0] at C3
    have HO : Hid (OwnP w1 w.heap.size (.slice (some ⟨g, 0, none⟩) ss.length cap) ss) := hO
    clear hO
    go_wp2_with fail
    refine (C3.out _ rfl).mono ?_
    rintro e w3 ⟨rfl, d', n, os, hp, hs, rfl⟩
    have hds : d'.size = ss.length := by rw [hp.1]; simp
    have hdl : d'.toList.length = ss.length := by simp [hds]
    have hO3 := own_sorted (n := n) os HO.out hds
    have hB := swP_below HB1.out hg1 hg2 n d' os
    have hU : UpP d'.toList := sorted_upP (by rw [hds]; simpa using hs)
    have hP : d'.toList.Perm ss := by
      have h := hp.2.2
      have e1 : (d'.extract 0 ss.length).toList = d'.toList := by rw [← hds]; simp
      have e2 : (ss.toArray.extract 0 ss.length).toList = ss := by simp
      rw [e1, e2] at h
      exact h
    have hN : d'.toList.Nodup := (hP.symm.pairwise_iff (fun {_ _} h => Ne.symm h)).1 hsn
    have FIN : Hid (RisP d'.toList ∧ (∀ x, x ∈ d'.toList ↔ x ∈ E.map (·.1)) ∧ d'.toList.length ≤ E.length ∧ RowKit.Below w.heap.size w (sortWorldK encP 3 w1 g 0 n d' os)) := ⟨hU.ris hN, fun x => (hP.mem_iff).trans (hsm x), by omega, hB⟩
    clear hp hs C3 hP hN hU hB
    generalize sortWorldK encP 3 w1 g 0 n d' os = w4 at *
    generalize d'.toList = D at *
    go_wp2_with fail
    go_ret
    exact ⟨_, D, rfl, by show OwnP _ _ (.slice (some ⟨g, 0, none⟩) ss.length cap) _; rw [← hdl]; exact hO3, FIN.out.1, FIN.out.2.1, FIN.out.2.2.1, FIN.out.2.2.2⟩

end

section
open Go.RowKit
set_option maxRecDepth 100000

section
variable (w : World) {ops : Array Oper} {rest : List Oper} {o : Oper} {a : Act} {Q : Exit → Act → World → Prop}
theorem wpList_entryM (hg : o.guard = none) (m k : Operand) (hop : o.op = Op.mapEntry 123 m k) (mb : Nat) (E : List (Pt × Value)) (x : Pt) (v0 : Value) (hv0 : getV E x = v0) (hm : a.eval m = .map (some mb)) (hk : a.eval k = PV x) (h : MapV w mb E)
    (hK : ∀ w' i bn, EntM w' mb (putV E x v0) i bn → (∀ v, (putV E x v0).set i (x, v) = putV E x v) → (∃ v, (putV E x v0)[i]? = some (x, v)) → w.grownBy w' (some mb) → w'.heap.size = w.heap.size → wpList Tryz.prog ops Q rest (a.put o.dst (.tuple #[v0, .int .i64 (bn : Nat)])) w') :
    wpList Tryz.prog ops Q (o :: rest) a w := by
  refine wpList_plain hg fun K' hK' => ?_
  obtain ⟨w', i, bn, hrun, r1, r2, r3, r4, r5⟩ := h.entry x
  rw [hv0] at hrun r1 r2 r3
  unfold Oper.wp
  simp [execOp, hop, hm, hk, hrun, Result.andThen]
  exact hK' _ _ (hK w' i bn r1 r2 r3 r4 r5)
theorem wpList_storeM (hg : o.guard = none) (m s x : Operand) (hop : o.op = Op.entryStore 123 m s x) (mb : Nat) (E : List (Pt × Value)) (i bn : Nat) (y : Pt) (v v1 : Value) (hm : a.eval m = .map (some mb)) (hs : a.eval s = .int .i64 (bn : Nat)) (hx : a.eval x = v) (h : EntM w mb E i bn) (hE : E[i]? = some (y, v1))
    (hK : ∀ w', MapV w' mb (E.set i (y, v)) → w.grownBy w' (some mb) → w'.heap.size = w.heap.size → wpList Tryz.prog ops Q rest (a.put o.dst undef) w') :
    wpList Tryz.prog ops Q (o :: rest) a w := by
  refine wpList_plain hg fun K' hK' => ?_
  obtain ⟨w', hrun, r1, r2, r3⟩ := h.store y v v1 hE
  unfold Oper.wp
  simp [execOp, hop, hm, hs, hx, hrun, Result.andThen]
  exact hK' _ _ (hK w' r1 r2 r3)
theorem wpList_lookM (hg : o.guard = none) (m k : Operand) (hop : o.op = Op.lookup 123 m k false) (mb : Nat) (E : List (Pt × Value)) (x : Pt) (v0 : Value) (hv0 : getV E x = v0) (hm : a.eval m = .map (some mb)) (hk : a.eval k = PV x) (h : MapV w mb E)
    (hK : wpList Tryz.prog ops Q rest (a.put o.dst v0) w) :
    wpList Tryz.prog ops Q (o :: rest) a w := by
  refine wpList_plain hg fun K' hK' => ?_
  have hrun := h.look x
  rw [hv0] at hrun
  unfold Oper.wp
  simp [execOp, hop, hm, hk, hrun, Result.andThen]
  exact hK' _ _ hK
theorem wpList_appM (hgd : o.guard = none) (s x : Operand)
    (ho : o.op = .call { callee := .builtin .append, args := #[s, x], argTypes := #[124, 124] })
    (B : Nat) (v : Value) (L : List Rg) (hs : a.eval s = v) (hown : OwnR w B v L)
    (u : Rg) (g : Nat) (hx : a.eval x = .slice (some ⟨g, 0, none⟩) 1 1) (hC : Blk w g #[.string u.lo, .string u.hi, .bool u.op] 84)
    (hlen : L.length + 1 ≤ 3518437208883) (hbase : B ≤ w.heap.size)
    (h : ∀ v' w', OwnR w' B v' (L ++ [u]) → w.grownBy w' v.ownBlock → (v'.ownBlock = v.ownBlock ∨ v'.ownBlock = some w.heap.size) → wpList Tryz.prog ops Q rest (a.put o.dst v') w') : wpList Tryz.prog ops Q (o :: rest) a w := by
  obtain ⟨i, hi, hz0, hz1, hz2⟩ := info_parts info_rng
  refine wpList_append_own_at w hgd s x 124 ho B 84 i (.agg #[.string ⟨#[]⟩, .string ⟨#[]⟩, .bool false]) 3 40 Tryz.underlying124 hi hz0 hz1 hz2 rfl (by decide) v L.length (rcells L) hs hown ⟨g, 0, none⟩ 1 1 (rcells [u]) hx rfl ?_ ?_ (by unfold maxLen; omega) (by omega) hbase ?_
  · intro j y hj
    have hj' : j < 3 := by
      have := (List.getElem?_eq_some_iff.1 hj).1
      simpa [rcells, encR] using this
    have e : (⟨g, 0, none⟩ : Addr).add j = ⟨g, j, none⟩ := by unfold Addr.add; split <;> simp_all
    rw [e]
    have h4 : j = 0 ∨ j = 1 ∨ j = 2 := by omega
    rcases h4 with rfl | rfl | rfl <;> (simp [rcells, encR] at hj; subst hj; exact hC.cell rfl)
  · intro y hy
    simp [rcells, encR] at hy
    rcases hy with rfl | rfl | rfl <;> rfl
  · intro v' w' h1 h2 _ h3
    refine h v' w' ?_ h2 h3
    unfold OwnR
    rw [rcells_append, List.length_append]
    exact h1
end

theorem lt_of_le_of_lt9 {a b c : ByteArray} (h1 : ltB b a = false) (h2 : ltB b c = true) : ltB a c = true := by
  rcases ltB_tri a b with h | h | h
  · exact lt_trans' h h2
  · rw [h]; exact h2
  · rw [h] at h1; cases h1
theorem some_iff9 (r : Rg) : r.some ↔ r.emp = false := by
  unfold Rg.some Rg.emp emptyB
  cases r.op <;> cases ltB r.lo r.hi <;> simp
theorem inL_keep (L : List Rg) {R : List Rg} (h : ∀ r, r ∈ R ↔ r ∈ keepL L) (k : ByteArray) : inL R k ↔ inL L k := by
  constructor
  · rintro ⟨r, hr, hk⟩
    exact ⟨r, (List.mem_filter.1 ((h r).1 hr)).1, hk⟩
  · rintro ⟨r, hr, hk⟩
    refine ⟨r, (h r).2 (List.mem_filter.2 ⟨hr, ?_⟩), hk⟩
    rw [Bool.not_eq_true']
    cases he : r.emp
    · rfl
    · exfalso
      have he' : emptyB r.lo r.hi r.op = true := he
      simp only [emptyB, Bool.and_eq_true, Bool.not_eq_true'] at he'
      rcases hk.2 with h1 | h1
      · rw [he'.1] at h1; cases h1
      · have h3 : ltB r.lo r.hi = true := lt_of_le_of_lt9 hk.1 h1
        rw [h3] at he'
        exact absurd he'.2 (by simp)
theorem keep_some {L : List Rg} {R : List Rg} (h : ∀ r, r ∈ R ↔ r ∈ keepL L) : ∀ r ∈ R, r.some := by
  intro r hr
  have h1 := (List.mem_filter.1 ((h r).1 hr)).2
  rw [Bool.not_eq_true'] at h1
  exact (some_iff9 r).2 h1
theorem union_un {L R : List Rg} (hR : Rising R) (hm : ∀ r, r ∈ R ↔ r ∈ keepL L) : UnOf L (R.foldl stepU []) := by
  obtain ⟨h1, h2, _⟩ := union_inv hR (keep_some hm)
  exact ⟨h1, fun k => (h2 k).trans (inL_keep L hm k)⟩

theorem unionV_any {B : Nat} (v : Value) (L : List Rg) (w : World) (h : OwnR w B v L) (hlen : L.length ≤ 3518437208784) :
    Calls Tryz.prog 84 #[v] w fun e w' => ∃ (v' : Value) (U : List Rg), e = .returned v' ∧ OwnR w' w.heap.size v' U ∧ UnOf L U ∧ U.length ≤ L.length ∧ Below w.heap.size w w' := by
  obtain ⟨p, c, rfl, hr⟩ := h.row
  have hc : L.length ≤ c ∧ (p = none → c = 0) := by
    rcases h.form with ⟨e, rfl⟩ | ⟨g, cap, e, _, _⟩
    · obtain ⟨rfl, -, rfl⟩ := Value.slice.inj e
      exact ⟨by simp, fun _ => rfl⟩
    · obtain ⟨rfl, -, rfl⟩ := Value.slice.inj e
      exact ⟨h.cap.1, fun h => by cases h⟩
  refine (union_any L p c w hr hlen hc.1 hc.2).mono ?_
  rintro e w' ⟨v, R, rfl, h1, h2, h3, h4, h5⟩
  have h6 := foldU_len R []
  simp only [List.length_nil, Nat.zero_add] at h6
  exact ⟨v, _, rfl, h1, union_un h2 h3, by omega, h5⟩

theorem rngsAt_cons (s : Sp) (L : List Sp) (p : Pt) : (rngsAt (s :: L) p).length = (rngsAt L p).length + (if plcS s = p then 1 else 0) := by
  unfold rngsAt
  by_cases h : plcS s = p <;> simp [h]
theorem sum_one (s : Sp) (L : List Sp) : ∀ (P : List Pt), P.Nodup → (P.map (fun p => (rngsAt (s :: L) p).length)).sum ≤ (P.map (fun p => (rngsAt L p).length)).sum + 1 ∧ (plcS s ∉ P → (P.map (fun p => (rngsAt (s :: L) p).length)).sum = (P.map (fun p => (rngsAt L p).length)).sum)
  | [], _ => ⟨by simp, fun _ => rfl⟩
  | p :: P, h => by
    obtain ⟨h1, h2⟩ := List.pairwise_cons.1 h
    obtain ⟨i1, i2⟩ := sum_one s L P h2
    simp only [List.map_cons, List.sum_cons, rngsAt_cons s L p]
    constructor
    · by_cases hp : plcS s = p
      · have h3 : plcS s ∉ P := fun hm => h1 _ hm hp.symm
        rw [if_pos hp, i2 h3]
        omega
      · rw [if_neg hp]
        omega
    · intro hn
      have h4 : ¬ plcS s = p := fun e => hn (by rw [e]; simp)
      have h5 : plcS s ∉ P := fun hm => hn (List.mem_cons_of_mem _ hm)
      rw [if_neg h4, i2 h5, Nat.add_zero]
theorem sum_rngs (P : List Pt) (hP : P.Nodup) : ∀ (L : List Sp), (P.map (fun p => (rngsAt L p).length)).sum ≤ L.length
  | [] => by
    have : ∀ P : List Pt, (P.map (fun p => (rngsAt [] p).length)).sum = 0 := fun P => by
      induction P with
      | nil => rfl
      | cons p P ih => rw [List.map_cons, List.sum_cons, ih]; rfl
    rw [this P]
    exact Nat.le_refl _
  | s :: L => by
    have h1 := (sum_one s L P hP).1
    have h2 := sum_rngs P hP L
    rw [List.length_cons]
    omega
theorem layU_len (L : List Sp) : ∀ (M : List (Pt × List Rg)), (∀ x ∈ M, x.2.length ≤ (rngsAt L x.1).length) → (layU M).length ≤ ((M.map (·.1)).map (fun p => (rngsAt L p).length)).sum
  | [], _ => by simp [layU]
  | x :: M, h => by
    have h1 := layU_len L M (fun y hy => h y (List.mem_cons_of_mem _ hy))
    have h2 := h x (by simp)
    simp only [layU, List.length_append, List.length_map, List.map_cons, List.sum_cons]
    omega
theorem RisP.nodup {L : List Pt} (h : RisP L) : L.Nodup := List.Pairwise.imp (fun {a b} hab e => by subst e; rw [ltP_irrefl] at hab; cases hab) h

end

end Go.Proofs.YtcknhjabdjbjiabGreat

namespace Go.Proofs.YtcknhjabdjbjiabGreat
open Go.RowKit
set_option maxRecDepth 100000

theorem take_snoc {α : Type} (L : List α) (j : Nat) (hj : j < L.length) : L.take (j + 1) = L.take j ++ [L[j]] := by
  rw [List.take_add_one, List.getElem?_eq_getElem hj]
  rfl
theorem below_by {B : Nat} {w w1 w2 : World} (h : Below B w w1) {row : Option Nat} (hg : w1.grownBy w2 row) (hz : B ≤ w1.heap.size) (hr : ∀ k, row = some k → B ≤ k) : Below B w w2 := h.grown hg hz hr
theorem ownS_ne {w : World} {B : Nat} {v : Value} {L : List Sp} (h : OwnS w B v L) {g : Nat} {cs : Array Value} {T : TypeId} (hb : w.heap[g]? = some (.cells cs T (0, 0))) (hT : T ≠ 86) : some g ≠ v.ownBlock := by
  rcases (show w.ownsRow B 86 5 v L.length (scells L) from h).2 with ⟨rfl, _⟩ | ⟨g', cap, cur, rfl, _, hgb, _⟩
  · intro e; cases e
  · intro e
    cases e
    rw [hgb] at hb
    cases hb
    exact hT rfl
theorem wpList_appSg {ops : Array Oper} {rest : List Oper} {o : Oper} {a : Act} {Q : Exit → Act → World → Prop} (w : World) (hgd : o.guard = none) (s x : Operand)
    (ho : o.op = .call { callee := .builtin .append, args := #[s, x], argTypes := #[25, 25] })
    (B : Nat) (v : Value) (L : List Sp) (hs : a.eval s = v) (hown : OwnS w B v L)
    (u : Sp) (g : Nat) (hx : a.eval x = .slice (some ⟨g, 0, none⟩) 1 1) (hgz : g = w.heap.size)
    (hlen : L.length + 1 ≤ 2513169434916) (hbase : B ≤ w.heap.size)
    (h : ∀ v' w', OwnS w' B v' (L ++ [u]) → Below B w w' → (∀ k, k < w.heap.size → some k ≠ v.ownBlock → w'.heap[k]? = w.heap[k]?) → w.heap.size ≤ w'.heap.size → wpList Tryz.prog ops Q rest (a.put o.dst v') w') : wpList Tryz.prog ops Q (o :: rest) a (w.alloc (.cells #[.int .i64 u.t, .int .i64 u.i, .string u.lo, .string u.hi, .bool u.op] 86)) := by
  obtain ⟨i, hi, hz0, hz1, hz2⟩ := info_parts info_S
  subst hgz
  have hown' : OwnS (w.alloc (.cells #[.int .i64 u.t, .int .i64 u.i, .string u.lo, .string u.hi, .bool u.op] 86)) B v L := hown.kept ((Below.refl _ _).alloc (Nat.le_refl _) _)
  refine wpList_append_own _ hgd s x 25 ho B 86 i (.agg #[.int .i64 0, .int .i64 0, .string ⟨#[]⟩, .string ⟨#[]⟩, .bool false]) 5 56 Tryz.underlying25 hi hz0 hz1 hz2 rfl (by decide) v L.length (scells L) hs hown' ⟨w.heap.size, 0, none⟩ 1 1 (scells [u]) hx rfl ?_ ?_ (by unfold maxLen; omega) (by omega) (by simp; omega) ?_
  · intro j y hj
    have hj' : j < 5 := by
      have := (List.getElem?_eq_some_iff.1 hj).1
      simpa [scells, encS] using this
    have e : (⟨w.heap.size, 0, none⟩ : Addr).add j = ⟨w.heap.size, j, none⟩ := by unfold Addr.add; split <;> simp_all
    rw [e]
    have h4 : j = 0 ∨ j = 1 ∨ j = 2 ∨ j = 3 ∨ j = 4 := by omega
    rcases h4 with rfl | rfl | rfl | rfl | rfl <;> (simp [scells, encS] at hj; subst hj; simp [go_sem])
  · intro y hy
    simp [scells, encS] at hy
    rcases hy with rfl | rfl | rfl | rfl | rfl <;> rfl
  · intro v' w' h1 h2 _
    refine h v' w' ?_ ?_ ?_ ?_
    · unfold OwnS
      rw [scells_append, List.length_append]
      exact h1
    · exact ((Below.refl _ _).alloc hbase _).grown h2 (by simp; omega) (fun k hk => (hown'.lt k hk).1)
    · intro k hk hne
      exact (h2.block k (by simp; omega) hne).trans (Below.heap_alloc _ _ k hk)
    · have := h2.size; simp at this; omega
theorem run_makeM (w : World) : (Instr.makeMap 123 none).run Tryz.prog w = .ok (.map (some w.heap.size)) (w.alloc (.map #[] 0)) := by
  unfold Instr.makeMap
  simp [go_sem]

set_option maxHeartbeats 16000000 in
theorem unions_any (L : List Sp) (v : Value) (w : World) (h : SlS w v L) (hlen : L.length ≤ 65536) :
    Calls Tryz.prog 68 #[v] w fun e w' => ∃ (v' : Value) (U : List Sp), e = .returned v' ∧ OwnS w' w.heap.size v' U ∧ SepS U ∧ (∀ x, anyS U x = anyS L x) ∧ U.length ≤ L.length ∧ Below w.heap.size w w' := by
  obtain ⟨p, c, rfl, hc1, hc2, hR⟩ := h.f
  have HR : Hid (RowS w w.heap.size p L) := hR
  clear hR h
  have hmk := run_makeM
  go_enter Tryz.func68, Tryz.ntmps68
  go_wp2_with fail
  have HM0 : Hid (RgM (w.alloc (.map #[] 0)) w.heap.size w.heap.size []) := RgM.made w _
  have HB0 : Hid (Below w.heap.size w (w.alloc (.map #[] 0))) := (Below.refl _ _).alloc (Nat.le_refl _) _
  clear hmk
  generalize (w.alloc (.map #[] 0)) = w0 at *
  go_loopw [15] (fun i wr => ∃ (j : Nat) (E : List (Pt × Value × List Rg)), j ≤ L.length ∧ i = .int .i64 (j : Int) ∧ Hid (RgM wr w.heap.size w.heap.size E) ∧ Hid (HoldsM (L.take j) E) ∧ E.length ≤ j ∧ Hid (Below w.heap.size w wr)) (fun i _ => L.length - (intOf i).toNat)
  case atStart => exact ⟨0, [], Nat.zero_le _, by go_num, HM0.out, HoldsM.nil, Nat.zero_le _, HB0.out⟩
  case round =>
    obtain ⟨j, E, hj, rfl, HM, HH, hEl, HB⟩ := hrel
    clear HM0 HB0
    by_cases hj0 : j = L.length
    · subst hj0
      have HH' : Hid (HoldsM L E) := by have h := HH.out; rw [List.take_of_length_le (Nat.le_refl _)] at h; exact h
      clear HH HR
      rename World => w1
      have HK : Hid (Calls _ _ _ _ _) := keys_any (some w.heap.size) w1
      have HS : Hid (∀ wx, wx = w1.alloc (.cells #[.map (some w.heap.size)] 123) → Calls _ _ _ wx _) := fun wx hx =>
        sortedF_any w1.heap.size w.heap.size (E.map kvE) (by have := HM.out.nodup; rw [List.map_map]; exact this) (by simp; omega) wx (by rw [hx]; simp) (by rw [hx]; exact (Boxed.new w1 _ _).cell) (HM.out.map.on (by rw [hx]; exact (Below.refl _ _).alloc (Nat.le_refl _) _))
      go_wp2_with fail
      refine HK.out.mono ?_
      rintro e w2 ⟨rfl, hw2⟩
      have HB2 : Hid (Below w1.heap.size w1 w2) := by rw [hw2]; exact (Below.refl _ _).alloc (Nat.le_refl _) _
      have HS2 : Hid (Calls _ _ _ _ _) := HS.out w2 hw2
      clear HK HS hw2
      go_wp2_with fail
      refine HS2.out.mono ?_
      rintro e w3 ⟨vR, R, rfl, hO3, hRis, hRm, hRl, hb3⟩
      clear HS2
      have HB3 : Hid (Below w1.heap.size w1 w3) := HB2.out.trans (hb3.mono HB2.out.size)
      have HM3 : Hid (RgM w3 w.heap.size w.heap.size E) := HM.out.on HB3.out
      have HBW : Hid (Below w.heap.size w w3) := HB.out.trans (HB3.out.mono HB.out.size)
      obtain ⟨pR, cR, rfl, hRow⟩ := hO3.row
      have HRw : Hid (RowP w3 w3.heap.size pR R) := hRow
      have HRm : Hid (∀ x, x ∈ R ↔ x ∈ E.map (·.1)) := fun x => by rw [hRm x, List.map_map]; rfl
      have HRis : Hid (RisP R) := hRis
      clear hO3 hRow hRm hRis hb3 HB2 HB3 HM HB
      rw [List.length_map] at hRl
      have hRl2 : R.length ≤ 65536 := by omega
      have HSum : Hid (∀ Ms : List (Pt × List Rg), (∃ n, Ms.map (·.1) = R.take n) → (∀ x ∈ Ms, x.2.length ≤ (rngsAt L x.1).length) → (layU Ms).length ≤ L.length) := fun Ms hM1 hM2 => by
        obtain ⟨n, hn⟩ := hM1
        have h1 := layU_len L Ms hM2
        have h2 := sum_rngs (Ms.map (·.1)) (by rw [hn]; exact List.Pairwise.sublist (List.take_sublist _ _) HRis.out.nodup) L
        omega
      go_wp2_with fail
      go_loopw [7, 38] (fun u i wr => ∃ (j : Nat) (Ms : List (Pt × List Rg)), j ≤ R.length ∧ i = .int .i64 (j : Int) ∧ Hid (Ms.map (·.1) = R.take j) ∧ Hid (∀ x ∈ Ms, UnOf (rngsAt L x.1) x.2 ∧ x.2.length ≤ (rngsAt L x.1).length) ∧ Hid (OwnS wr w3.heap.size u (layU Ms)) ∧ Hid (Below w3.heap.size w3 wr)) (fun _ i _ => R.length - (intOf i).toNat)
      case atStart => exact ⟨0, [], Nat.zero_le _, by go_num, (show ([] : List (Pt × List Rg)).map (·.1) = R.take 0 by simp), (show ∀ x ∈ ([] : List (Pt × List Rg)), _ by simp), OwnS.nil _ _, Below.refl _ _⟩
      case round =>
        obtain ⟨j, Ms, hj, rfl, HMs, HUn, HOw, HBl⟩ := hrel
        by_cases hj0 : j = R.length
        · subst hj0
          go_wp2
          go_ret
          have hMs := HMs.out
          rw [List.take_of_length_le (Nat.le_refl _)] at hMs
          have hk : ∀ x ∈ Ms, x.1.k = ⟨#[]⟩ := fun x hx => by
            have h1 : x.1 ∈ R := by rw [← hMs]; exact List.mem_map.2 ⟨x, hx, rfl⟩
            obtain ⟨e, he, he2⟩ := List.mem_map.1 ((HRm.out x.1).1 h1)
            rw [← he2]
            exact (HH'.out.rngs e he).1
          refine ⟨_, layU Ms, rfl, HOw.out.mono HBW.out.size, layU_sep Ms (by rw [hMs]; exact HRis.out) hk (fun x hx => (HUn.out x hx).1.1), layU_any Ms L (fun x hx => ⟨hk x hx, (HUn.out x hx).1.2⟩) (fun s hs => ?_), HSum.out Ms ⟨R.length, HMs.out⟩ (fun x hx => (HUn.out x hx).2), HBW.out.trans (HBl.out.mono HBW.out.size)⟩
          rw [hMs]
          exact (HRm.out _).2 (HH'.out.all s hs)
        · have hj1 : j < R.length := by omega
          generalize wr = wq at *
          obtain ⟨b, o, hp, hb, d0, d1, d2⟩ := (HRw.out.on HBl.out) j hj1
          subst hp
          have HMx : Hid (RgM wq w.heap.size w.heap.size E) := HM3.out.on HBl.out
          obtain ⟨x, hx⟩ : ∃ x, R[j] = x := ⟨_, rfl⟩
          have HTk : Hid (R.take (j + 1) = R.take j ++ [x]) := by rw [← hx]; exact take_snoc R j hj1
          rw [hx] at d0 d1 d2
          clear hx
          obtain ⟨v0, hv0⟩ : ∃ v0, getV (E.map kvE) x = v0 := ⟨_, rfl⟩
          obtain ⟨wA, hwA⟩ : ∃ wA, wq.alloc (.cells #[.int .i64 x.t, .int .i64 x.i, .string x.k] 36) = wA := ⟨_, rfl⟩
          have HBA : Hid (Below wq.heap.size wq wA) := by rw [← hwA]; exact (Below.refl _ _).alloc (Nat.le_refl _) _
          have HKA : Hid (Blk wA wq.heap.size #[.int .i64 x.t, .int .i64 x.i, .string x.k] 36) := by rw [← hwA]; exact Blk.new wq _ _
          have HMA : Hid (RgM wA w.heap.size w.heap.size E) := HMx.out.on HBA.out
          have HG : Hid (OwnR wA w.heap.size v0 (rngsAt L x)) := by rw [← hv0]; exact HMA.out.get HH'.out x
          have HLn : Hid ((rngsAt L x).length ≤ 65536) := by
            unfold rngsAt
            rw [List.length_map]
            exact Nat.le_trans (List.length_filter_le _ _) hlen
          have HUc : Hid (Calls _ _ _ _ _) := unionV_any v0 (rngsAt L x) wA HG.out (by have := HLn.out; omega)
          have q0 := HKA.out.cell (i := 0) rfl
          have q1 := HKA.out.cell (i := 1) rfl
          have q2 := HKA.out.cell (i := 2) rfl
          have hlk : (Instr.lookup 123 (.map (some w.heap.size)) (.agg #[.int .i64 x.t, .int .i64 x.i, .string x.k]) false).run Tryz.prog wA = .ok v0 wA := by rw [← hv0]; exact HMA.out.map.look x
          go_wp2_with fail
          refine HUc.out.mono ?_
          rintro e w5 ⟨vU, U, rfl, hOU, hUU, hUl, hb5⟩
          clear HUc d0 d1 d2 q0 q1 q2 hv0 HG hwA hlk
          have HB5 : Hid (Below wq.heap.size wq w5) := HBA.out.trans (hb5.mono HBA.out.size)
          have HK5 : Hid (Blk w5 wq.heap.size #[.int .i64 x.t, .int .i64 x.i, .string x.k] 36) := HKA.out.on hb5
          obtain ⟨pU, cU, rfl, _⟩ := hOU.row
          have HRU : Hid (OwnR w5 wA.heap.size (.slice pU U.length cU) U) := hOU
          have HUU : Hid (UnOf (rngsAt L x) U ∧ U.length ≤ (rngsAt L x).length) := ⟨hUU, hUl⟩
          have hUl2 : U.length ≤ 65536 := by have := HLn.out; omega
          have HO5 : Hid (OwnS w5 w3.heap.size _ (layU Ms)) := HOw.out.kept HB5.out
          have hLl := HSum.out Ms ⟨j, HMs.out⟩ (fun x hx => (HUn.out x hx).2)
          clear hOU hUU hUl HOw HMx HMA HKA HBA hb5 HLn
          have HBx : Hid (Below w3.heap.size w3 w5) := HBl.out.trans (HB5.out.mono HBl.out.size)
          have HLt : Hid (wq.heap.size < w5.heap.size) := HK5.out.lt
          clear HBl HB5
          go_wp2_with fail
          go_loopw [7, 47] (fun u i wr => ∃ (k : Nat), k ≤ U.length ∧ i = .int .i64 (k : Int) ∧ Hid (OwnS wr w3.heap.size u (layU Ms ++ (U.take k).map (spOf x))) ∧ Hid (Blk wr wq.heap.size #[.int .i64 x.t, .int .i64 x.i, .string x.k] 36) ∧ Hid (OwnR wr wA.heap.size (.slice pU U.length cU) U) ∧ Hid (Below w3.heap.size w5 wr) ∧ w5.heap.size ≤ wr.heap.size) (fun _ i _ => U.length - (intOf i).toNat)
          case atStart => exact ⟨0, Nat.zero_le _, by go_num, (show OwnS _ _ _ _ by simpa using HO5.out), HK5.out, HRU.out, Below.refl _ _, Nat.le_refl _⟩
          case round =>
            obtain ⟨k, hk, rfl, HOk, HKy, HRy, HBk, hzz⟩ := hrel
            by_cases hk0 : k = U.length
            · subst hk0
              go_wp2_with fail
              go_roundw
              case rel =>
                refine ⟨j + 1, Ms ++ [(x, U)], hj1, by go_num, ?_, ?_, ?_, HBx.out.trans HBk.out⟩
                · refine (show _ = _ from ?_); rw [List.map_append, HMs.out, HTk.out]; rfl
                · refine (show ∀ y ∈ Ms ++ [(x, U)], _ from ?_)
                  intro y hy
                  rcases List.mem_append.1 hy with hy | hy
                  · exact HUn.out y hy
                  · rw [List.mem_singleton] at hy; subst hy; exact HUU.out
                · refine (show OwnS _ _ _ _ from ?_); rw [layU_snoc]; have h := HOk.out; rw [List.take_of_length_le (Nat.le_refl _)] at h; exact h
              case measure => simp [intOf]; omega
            · have hk1 : k < U.length := by omega
              obtain ⟨p2, c9, e9, hr9⟩ := HRy.out.row
              obtain ⟨rfl, -, rfl⟩ := Value.slice.inj e9
              clear e9
              obtain ⟨b2, o2, hp2, hb2, c0, c1, c2⟩ := hr9 k hk1
              subst hp2
              clear hr9
              have HTU : Hid ((U.take (k + 1)).map (spOf x) = (U.take k).map (spOf x) ++ [spOf x U[k]]) := by rw [take_snoc U k hk1, List.map_append]; rfl
              have hl9 : (layU Ms ++ (U.take k).map (spOf x)).length + 1 ≤ 2513169434916 := by
                rw [List.length_append, List.length_map, List.length_take]
                omega
              generalize U[k] = r at *
              obtain ⟨rl, rh, ro⟩ := r
              dsimp only at c0 c1 c2
              have q0 := HKy.out.cell (i := 0) rfl
              have q1 := HKy.out.cell (i := 1) rfl
              obtain ⟨wB, hwB⟩ : ∃ wB, wr.alloc (.cells #[.string rl, .string rh, .bool ro] 84) = wB := ⟨_, rfl⟩
              have HBB : Hid (Below wr.heap.size wr wB) := by rw [← hwB]; exact (Below.refl _ _).alloc (Nat.le_refl _) _
              have HKR : Hid (Blk wB wr.heap.size #[.string rl, .string rh, .bool ro] 84) := by rw [← hwB]; exact Blk.new wr _ _
              have HKz : Hid (Blk wB wq.heap.size #[.int .i64 x.t, .int .i64 x.i, .string x.k] 36) := HKy.out.on HBB.out
              have q3 := HKz.out.cell (i := 0) rfl
              have q4 := HKz.out.cell (i := 1) rfl
              have q5 := HKR.out.cell (i := 0) rfl
              have q6 := HKR.out.cell (i := 1) rfl
              have q7 := HKR.out.cell (i := 2) rfl
              have hzx := HBx.out.size
              have hzb := HBB.out.size
              rcases HOk.out.form with ⟨rfl, hnil⟩ | ⟨g, cap, rfl, hg1, hg2⟩
              · skip
                have HOB : Hid (OwnS wB w3.heap.size (.slice none 0 0) (layU Ms ++ (U.take k).map (spOf x))) := HOk.out.kept HBB.out
                have HRB : Hid (OwnR wB wA.heap.size (.slice (some ⟨b2, o2, none⟩) U.length cU) U) := HRy.out.kept HBB.out
                go_wp2_with (first | (at_builtin; refine wpList_appSg _ rfl _ _ rfl w3.heap.size _ _ rfl HOB.out (spOf x ⟨rl, rh, ro⟩) _ rfl rfl hl9 (by omega) ?_; intro v6 w6 h6 h7 h8 h9))
                go_roundw
                case rel =>
                  refine ⟨k + 1, hk1, by go_num, (show OwnS _ _ _ _ by rw [HTU.out, ← List.append_assoc]; exact h6), ?_, ?_, HBk.out.trans ((HBB.out.mono (by omega)).trans h7), by omega⟩
                  · exact (h8 _ HKz.out.lt (ownS_ne HOB.out HKz.out (by decide))).trans HKz.out
                  · refine (show OwnR _ _ _ _ from ?_)
                    refine HRB.out.by (fun g9 hg9 => ?_)
                    obtain ⟨cur, hcur⟩ := own_blk HRB.out hg9
                    exact h8 g9 (own_lt HRB.out hg9) (ownS_ne HOB.out hcur (by decide))
                case measure => simp [intOf]; omega
              · skip
                have HOB : Hid (OwnS wB w3.heap.size (.slice (some ⟨g, 0, none⟩) (layU Ms ++ (U.take k).map (spOf x)).length cap) (layU Ms ++ (U.take k).map (spOf x))) := HOk.out.kept HBB.out
                have HRB : Hid (OwnR wB wA.heap.size (.slice (some ⟨b2, o2, none⟩) U.length cU) U) := HRy.out.kept HBB.out
                go_wp2_with (first | (at_builtin; refine wpList_appSg _ rfl _ _ rfl w3.heap.size _ _ rfl HOB.out (spOf x ⟨rl, rh, ro⟩) _ rfl rfl hl9 (by omega) ?_; intro v6 w6 h6 h7 h8 h9))
                go_roundw
                case rel =>
                  refine ⟨k + 1, hk1, by go_num, (show OwnS _ _ _ _ by rw [HTU.out, ← List.append_assoc]; exact h6), ?_, ?_, HBk.out.trans ((HBB.out.mono (by omega)).trans h7), by omega⟩
                  · exact (h8 _ HKz.out.lt (ownS_ne HOB.out HKz.out (by decide))).trans HKz.out
                  · refine (show OwnR _ _ _ _ from ?_)
                    refine HRB.out.by (fun g9 hg9 => ?_)
                    obtain ⟨cur, hcur⟩ := own_blk HRB.out hg9
                    exact h8 g9 (own_lt HRB.out hg9) (ownS_ne HOB.out hcur (by decide))
                case measure => simp [intOf]; omega
    · have hj1 : j < L.length := by omega
      obtain ⟨b, o, hp, hb, d0, d1, d2, d3, d4⟩ := (HR.out.on HB.out) j hj1
      subst hp
      have HTk : Hid (L.take (j + 1) = L.take j ++ [L[j]]) := take_snoc L j hj1
      generalize L[j] = s at *
      obtain ⟨st, si, slo, shi, sop⟩ := s
      dsimp only at d0 d1 d2 d3 d4
      have hzw := HB.out.size
      have hmlt := HM.out.map.lt
      obtain ⟨wA, hwA⟩ : ∃ wA, wr.alloc (.cells #[.int .i64 st, .int .i64 si, .string slo, .string shi, .bool sop] 86) = wA := ⟨_, rfl⟩
      have hzA : wA.heap.size = wr.heap.size + 1 := by rw [← hwA]; simp
      have HBA : Hid (Below wr.heap.size wr wA) := by rw [← hwA]; exact (Below.refl _ _).alloc (Nat.le_refl _) _
      have HKA : Hid (Blk wA wr.heap.size #[.int .i64 st, .int .i64 si, .string slo, .string shi, .bool sop] 86) := by rw [← hwA]; exact Blk.new wr _ _
      have hzB : (wA.alloc (.cells #[.int .i64 st, .int .i64 si, .string ⟨#[]⟩] 36)).heap.size = wr.heap.size + 2 := by simp [hzA]
      have HBB : Hid (Below wA.heap.size wA (wA.alloc (.cells #[.int .i64 st, .int .i64 si, .string ⟨#[]⟩] 36))) := (Below.refl _ _).alloc (Nat.le_refl _) _
      have HKB : Hid (Blk (wA.alloc (.cells #[.int .i64 st, .int .i64 si, .string ⟨#[]⟩] 36)) (wr.heap.size + 1) #[.int .i64 st, .int .i64 si, .string ⟨#[]⟩] 36) := by rw [← hzA]; exact Blk.new wA _ _
      have HKA2 : Hid (Blk (wA.alloc (.cells #[.int .i64 st, .int .i64 si, .string ⟨#[]⟩] 36)) wr.heap.size #[.int .i64 st, .int .i64 si, .string slo, .string shi, .bool sop] 86) := HKA.out.on HBB.out
      obtain ⟨wC, hwC⟩ : ∃ wC, (wA.alloc (.cells #[.int .i64 st, .int .i64 si, .string ⟨#[]⟩] 36)).alloc (.cells #[.string slo, .string shi, .bool sop] 84) = wC := ⟨_, rfl⟩
      have hzC : wC.heap.size = wr.heap.size + 3 := by rw [← hwC, World.size_alloc, hzB]
      have HBC : Hid (Below wr.heap.size wr wC) := by
        have h1 : Below (wA.alloc (.cells #[.int .i64 st, .int .i64 si, .string ⟨#[]⟩] 36)).heap.size (wA.alloc (.cells #[.int .i64 st, .int .i64 si, .string ⟨#[]⟩] 36)) wC := by rw [← hwC]; exact (Below.refl _ _).alloc (Nat.le_refl _) _
        exact (HBA.out.trans (HBB.out.mono (by omega))).trans (h1.mono (by omega))
      have HKC : Hid (Blk wC (wr.heap.size + 2) #[.string slo, .string shi, .bool sop] 84) := by rw [← hwC, ← hzB]; exact Blk.new (wA.alloc (.cells #[.int .i64 st, .int .i64 si, .string ⟨#[]⟩] 36)) _ _
      have HMC : Hid (RgM wC w.heap.size w.heap.size E) := HM.out.on HBC.out
      have a0 := HKA.out.cell (i := 0) rfl
      have a1 := HKA.out.cell (i := 1) rfl
      have e0 := HKB.out.cell (i := 0) rfl
      have e1 := HKB.out.cell (i := 1) rfl
      have e2 := HKB.out.cell (i := 2) rfl
      have a2 := HKA2.out.cell (i := 2) rfl
      have a3 := HKA2.out.cell (i := 3) rfl
      have a4 := HKA2.out.cell (i := 4) rfl
      obtain ⟨v0, hv0⟩ : ∃ v0, getV (E.map kvE) ⟨st, si, ⟨#[]⟩⟩ = v0 := ⟨_, rfl⟩
      have HOv : Hid (OwnR wC w.heap.size v0 (rngsAt (L.take j) ⟨st, si, ⟨#[]⟩⟩)) := by rw [← hv0]; exact HMC.out.get HH.out _
      have HLn : Hid ((rngsAt (L.take j) ⟨st, si, ⟨#[]⟩⟩).length ≤ 65536) := by
        unfold rngsAt
        rw [List.length_map]
        refine Nat.le_trans (List.length_filter_le _ _) ?_
        rw [List.length_take]
        omega
      have HBw : Hid (Below w.heap.size w wC) := HB.out.trans (HBC.out.mono hzw)
      go_wp2_with (first
        | (refine wpList_entryM _ rfl _ _ rfl w.heap.size (E.map kvE) ⟨st, si, ⟨#[]⟩⟩ v0 hv0 rfl rfl HMC.out.map ?_
           intro w4 ei bn hEn hset hex hg4 hz4
           have HE4 : Hid (EntM w4 w.heap.size (putV (E.map kvE) ⟨st, si, ⟨#[]⟩⟩ v0) ei bn) := hEn
           have HS4 : Hid (∀ v, (putV (E.map kvE) ⟨st, si, ⟨#[]⟩⟩ v0).set ei (⟨st, si, ⟨#[]⟩⟩, v) = putV (E.map kvE) ⟨st, si, ⟨#[]⟩⟩ v) := hset
           have HX4 : Hid (∃ v, (putV (E.map kvE) ⟨st, si, ⟨#[]⟩⟩ v0)[ei]? = some (⟨st, si, ⟨#[]⟩⟩, v)) := hex
           have HG4 : Hid (wC.grownBy w4 (some w.heap.size)) := hg4
           have HO4 : Hid (OwnR w4 w.heap.size v0 (rngsAt (L.take j) ⟨st, si, ⟨#[]⟩⟩)) := HOv.out.by (fun g hg => hg4.block g (own_lt HOv.out hg) (fun e => own_not_map HOv.out HMC.out.map (by rw [hg]; exact e)))
           have HK4 : Hid (Blk w4 (wr.heap.size + 2) #[.string slo, .string shi, .bool sop] 84) := (hg4.block _ HKC.out.lt (fun e => by have := Option.some.inj e; omega)).trans HKC.out
           clear hEn hset hex hg4)
        | (at_builtin
           refine wpList_appM w4 rfl _ _ rfl w.heap.size v0 (rngsAt (L.take j) ⟨st, si, ⟨#[]⟩⟩) rfl HO4.out ⟨slo, shi, sop⟩ _ rfl HK4.out (by have := HLn.out; omega) (by omega) ?_
           intro v5 w5 h5 hg5 hat5
           have HE5 : Hid (EntM w5 w.heap.size (putV (E.map kvE) ⟨st, si, ⟨#[]⟩⟩ v0) ei bn) := HE4.out.of_block (hg5.block _ HE4.out.mapV.lt (fun e => own_not_map HO4.out HE4.out.mapV e.symm))
           have H5 : Hid (OwnR w5 w.heap.size v5 (rngsAt (L.take j) ⟨st, si, ⟨#[]⟩⟩ ++ [⟨slo, shi, sop⟩]) ∧ w4.grownBy w5 v0.ownBlock ∧ (v5.ownBlock = v0.ownBlock ∨ v5.ownBlock = some w4.heap.size)) := ⟨h5, hg5, hat5⟩
           clear h5 hg5 hat5)
        | (refine wpList_storeM w5 rfl _ _ _ rfl w.heap.size (putV (E.map kvE) ⟨st, si, ⟨#[]⟩⟩ v0) ei bn ⟨st, si, ⟨#[]⟩⟩ v5 HX4.out.choose rfl rfl rfl HE5.out HX4.out.choose_spec ?_
           intro w6 hm6 hg6 hz6
           have H6 : Hid (MapV w6 w.heap.size (putV (E.map kvE) ⟨st, si, ⟨#[]⟩⟩ v5) ∧ w5.grownBy w6 (some w.heap.size) ∧ w6.heap.size = w5.heap.size) := ⟨by rw [← HS4.out v5]; exact hm6, hg6, hz6⟩
           clear hm6 hg6 hz6))
      go_roundw
      case rel =>
        obtain ⟨h5, hg5, hat5⟩ := H5.out
        obtain ⟨hm6, hg6, hz6⟩ := H6.out
        have hg4 := HG4.out
        have hm5 := HE5.out.mapV
        have hfr : ∀ k, k < wC.heap.size → k ≠ w.heap.size → some k ≠ (getV (E.map kvE) (plcS ⟨st, si, slo, shi, sop⟩)).ownBlock → w6.heap[k]? = wC.heap[k]? := fun k hk hkm hkv => by
          have hkv' : some k ≠ v0.ownBlock := by rw [← hv0]; exact hkv
          rw [hg6.block k (by have := hg5.size; omega) (fun e => hkm (Option.some.inj e)), hg5.block k (by omega) hkv', hg4.block k hk (fun e => hkm (Option.some.inj e))]
        have hww : v5.ownBlock = (getV (E.map kvE) (plcS ⟨st, si, slo, shi, sop⟩)).ownBlock ∨ ∃ g, v5.ownBlock = some g ∧ wC.heap.size ≤ g := by
          show v5.ownBlock = (getV (E.map kvE) ⟨st, si, ⟨#[]⟩⟩).ownBlock ∨ _
          rw [hv0]
          rcases hat5 with h | h
          · exact .inl h
          · exact .inr ⟨_, h, by omega⟩
        obtain ⟨E', hR', hH', hl'⟩ := RgM.put (w := wC) (w2 := w6) HMC.out HH.out ⟨st, si, slo, shi, sop⟩ v5 hm6 (h5.by (fun g hg => hg6.block g (own_lt h5 hg) (fun e => own_not_map h5 hm5 (by rw [hg]; exact e)))) hfr hww
        refine ⟨j + 1, E', hj1, by go_num, hR', (show HoldsM _ _ by rw [HTk.out]; exact hH'), by omega, ?_⟩
        have hb4 : Below w.heap.size w w4 := HBw.out.grown hg4 (by omega) (fun k e => by have := Option.some.inj e; omega)
        have hb5 : Below w.heap.size w w5 := hb4.grown hg5 hb4.size (fun k e => (World.ownsRow.lt HO4.out k e).1)
        exact hb5.grown hg6 hb5.size (fun k e => by have := Option.some.inj e; omega)
      case measure => simp [intOf]; omega

end Go.Proofs.YtcknhjabdjbjiabGreat
