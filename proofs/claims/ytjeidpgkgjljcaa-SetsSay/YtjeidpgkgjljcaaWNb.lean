/- slices.SortedFunc of what maps.Keys gives. Operations of a map of ranges in a walk; Union of what is owned. -/
import Derived.Test.YtjeidpgkgjljcaaWNm4
namespace Go.Proofs.Ytjeidpgkgjljcaa

section
open Go.Shelf Go.RowKit Go.Lib Go.Sort
set_option maxRecDepth 100000

theorem UpP.ris : ∀ {L : List Pt}, UpP L → L.Nodup → RisP L
  | [], _, _ => List.Pairwise.nil
  | x :: L, hU, hN => by
    obtain ⟨h1, h2⟩ := List.pairwise_cons.1 hU
    obtain ⟨h3, h4⟩ := List.pairwise_cons.1 hN
    refine List.pairwise_cons.2 ⟨fun y hy => ?_, UpP.ris h2 h4⟩
    rcases ltP_tri x y with h | h | h
    · exact h
    · exact absurd h (h3 y hy)
    · rw [h1 y hy] at h; cases h

set_option maxHeartbeats 1000000 in
theorem collect_any (Bm mb : Nat) (E : List (Pt × Value)) (hnd : (E.map (·.1)).Nodup) (hlen : E.length ≤ 65536) (w : World) (hBm : Bm < w.heap.size) (hm : w.cell? ⟨Bm, 0, none⟩ = some (.map (some mb))) (hE : MapV w mb E) :
    Calls Try.prog 78 #[.func (.func 79) #[] #[.pointer (some ⟨Bm, 0, none⟩)]] w fun e w' => ∃ (v : Value) (ss : List Pt), e = .returned v ∧ OwnP w' w.heap.size v ss ∧ ss.Nodup ∧ (∀ x, x ∈ ss ↔ x ∈ E.map (·.1)) ∧ ss.length ≤ E.length ∧ RowKit.Below w.heap.size w w' := by
  have C1 : Hid (Calls _ _ _ _ _) := appendSeq_any Bm mb E hnd hlen w hBm hm hE
  go_enter Try.func78, Try.ntmps78
  go_wp2_with fail
  refine C1.out.mono ?_
  rintro e w1 ⟨v, ss, rfl, h1, h2, h3, h4, h5⟩
  go_wp2_with fail
  go_ret
  exact ⟨v, ss, rfl, h1, h2, h3, h4, h5⟩

set_option maxHeartbeats 4000000 in
theorem sortedF_any (Bm mb : Nat) (E : List (Pt × Value)) (hnd : (E.map (·.1)).Nodup) (hlen : E.length ≤ 65536) (w : World) (hBm : Bm < w.heap.size) (hm : w.cell? ⟨Bm, 0, none⟩ = some (.map (some mb))) (hE : MapV w mb E) :
    Calls Try.prog 69 #[.func (.func 79) #[] #[.pointer (some ⟨Bm, 0, none⟩)], .func (.func 46) #[] #[]] w fun e w' => ∃ (v : Value) (R : List Pt), e = .returned v ∧ OwnP w' w.heap.size v R ∧ RisP R ∧ (∀ x, x ∈ R ↔ x ∈ E.map (·.1)) ∧ R.length ≤ E.length ∧ RowKit.Below w.heap.size w w' := by
  haveI : Inhabited Pt := ⟨⟨0, 0, ⟨#[]⟩⟩⟩
  have C1 : Hid (Calls _ _ _ _ _) := collect_any Bm mb E hnd hlen w hBm hm hE
  clear hm hE hBm
  go_enter Try.func69, Try.ntmps69
  go_wp2_with fail
  refine C1.out.mono ?_
  rintro e w1 ⟨v, ss, rfl, hO, hsn, hsm, hsl, hb1⟩
  have HB1 : Hid (RowKit.Below _ _ _) := hb1
  clear hb1 C1
  rcases hO.form with ⟨rfl, rfl⟩ | ⟨g, cap, rfl, hg1, hg2⟩
  · have C2 : Hid (∀ w1 : World, Calls Try.prog 64 #[.slice none 0 0, .func (.func 46) #[] #[]] w1 fun e w' => e = .returned (.tuple #[]) ∧ w' = w1) := fun w1 => sortPN_any _ w1
    go_wp2_with fail
    refine (C2.out _).mono ?_
    rintro e w2 ⟨rfl, h2⟩
    rw [h2]
    clear h2
    go_wp2_with fail
    go_ret
    exact ⟨_, [], rfl, OwnP.nil _ _, List.Pairwise.nil, hsm, Nat.zero_le _, HB1.out⟩
  · have hs0 : ss.toArray.size = ss.length := by simp
    have C3 : Hid (∀ x, x = w1 → Calls _ _ _ _ _) := fun x hx => by subst hx; exact sortP_any g 0 cap ss.toArray x hO.holds hg2 (by rw [hs0]; omega)
    rw [hs0] at C3
    have HO : Hid (OwnP w1 w.heap.size (.slice (some ⟨g, 0, none⟩) ss.length cap) ss) := hO
    clear hO
    go_wp2_with fail
    refine (C3.out _ rfl).mono ?_
    rintro e w3 ⟨rfl, d', n, os, hp, hs, rfl⟩
    have hds : d'.size = ss.length := by rw [hp.1]; simp
    have hdl : d'.toList.length = ss.length := by simp [hds]
    have hO3 := own_sorted (n := n) os HO.out hds
    have hB := swP_below HB1.out hg1 hg2 n d' os
    have hU : UpP d'.toList := sorted_upP (by rw [hds]; simpa using hs)
    have hP : d'.toList.Perm ss := by
      have h := hp.2.2
      have e1 : (d'.extract 0 ss.length).toList = d'.toList := by rw [← hds]; simp
      have e2 : (ss.toArray.extract 0 ss.length).toList = ss := by simp
      rw [e1, e2] at h
      exact h
    have hN : d'.toList.Nodup := (hP.symm.pairwise_iff (fun {_ _} h => Ne.symm h)).1 hsn
    have FIN : Hid (RisP d'.toList ∧ (∀ x, x ∈ d'.toList ↔ x ∈ E.map (·.1)) ∧ d'.toList.length ≤ E.length ∧ RowKit.Below w.heap.size w (sortWorldK encP 3 w1 g 0 n d' os)) := ⟨hU.ris hN, fun x => (hP.mem_iff).trans (hsm x), by omega, hB⟩
    clear hp hs C3 hP hN hU hB
    generalize sortWorldK encP 3 w1 g 0 n d' os = w4 at *
    generalize d'.toList = D at *
    go_wp2_with fail
    go_ret
    exact ⟨_, D, rfl, by show OwnP _ _ (.slice (some ⟨g, 0, none⟩) ss.length cap) _; rw [← hdl]; exact hO3, FIN.out.1, FIN.out.2.1, FIN.out.2.2.1, FIN.out.2.2.2⟩

end

section
open Go.RowKit
set_option maxRecDepth 100000

section
variable (w : World) {ops : Array Oper} {rest : List Oper} {o : Oper} {a : Act} {Q : Exit → Act → World → Prop}
theorem wpList_entryM (hg : o.guard = none) (m k : Operand) (hop : o.op = Op.mapEntry 88 m k) (mb : Nat) (E : List (Pt × Value)) (x : Pt) (v0 : Value) (hv0 : getV E x = v0) (hm : a.eval m = .map (some mb)) (hk : a.eval k = PV x) (h : MapV w mb E)
    (hK : ∀ w' i bn, EntM w' mb (putV E x v0) i bn → (∀ v, (putV E x v0).set i (x, v) = putV E x v) → (∃ v, (putV E x v0)[i]? = some (x, v)) → w.grownBy w' (some mb) → w'.heap.size = w.heap.size → wpList Try.prog ops Q rest (a.put o.dst (.tuple #[v0, .int .i64 (bn : Nat)])) w') :
    wpList Try.prog ops Q (o :: rest) a w := by
  refine wpList_plain hg fun K' hK' => ?_
  obtain ⟨w', i, bn, hrun, r1, r2, r3, r4, r5⟩ := h.entry x
  rw [hv0] at hrun r1 r2 r3
  unfold Oper.wp
  simp [execOp, hop, hm, hk, hrun, Result.andThen]
  exact hK' _ _ (hK w' i bn r1 r2 r3 r4 r5)
theorem wpList_storeM (hg : o.guard = none) (m s x : Operand) (hop : o.op = Op.entryStore 88 m s x) (mb : Nat) (E : List (Pt × Value)) (i bn : Nat) (y : Pt) (v v1 : Value) (hm : a.eval m = .map (some mb)) (hs : a.eval s = .int .i64 (bn : Nat)) (hx : a.eval x = v) (h : EntM w mb E i bn) (hE : E[i]? = some (y, v1))
    (hK : ∀ w', MapV w' mb (E.set i (y, v)) → w.grownBy w' (some mb) → w'.heap.size = w.heap.size → wpList Try.prog ops Q rest (a.put o.dst undef) w') :
    wpList Try.prog ops Q (o :: rest) a w := by
  refine wpList_plain hg fun K' hK' => ?_
  obtain ⟨w', hrun, r1, r2, r3⟩ := h.store y v v1 hE
  unfold Oper.wp
  simp [execOp, hop, hm, hs, hx, hrun, Result.andThen]
  exact hK' _ _ (hK w' r1 r2 r3)
theorem wpList_lookM (hg : o.guard = none) (m k : Operand) (hop : o.op = Op.lookup 88 m k false) (mb : Nat) (E : List (Pt × Value)) (x : Pt) (v0 : Value) (hv0 : getV E x = v0) (hm : a.eval m = .map (some mb)) (hk : a.eval k = PV x) (h : MapV w mb E)
    (hK : wpList Try.prog ops Q rest (a.put o.dst v0) w) :
    wpList Try.prog ops Q (o :: rest) a w := by
  refine wpList_plain hg fun K' hK' => ?_
  have hrun := h.look x
  rw [hv0] at hrun
  unfold Oper.wp
  simp [execOp, hop, hm, hk, hrun, Result.andThen]
  exact hK' _ _ hK
theorem wpList_appM (hgd : o.guard = none) (s x : Operand)
    (ho : o.op = .call { callee := .builtin .append, args := #[s, x], argTypes := #[89, 89] })
    (B : Nat) (v : Value) (L : List Rg) (hs : a.eval s = v) (hown : OwnR w B v L)
    (u : Rg) (g : Nat) (hx : a.eval x = .slice (some ⟨g, 0, none⟩) 1 1) (hC : Blk w g #[.string u.lo, .string u.hi, .bool u.op] 53)
    (hlen : L.length + 1 ≤ 3518437208883) (hbase : B ≤ w.heap.size)
    (h : ∀ v' w', OwnR w' B v' (L ++ [u]) → w.grownBy w' v.ownBlock → (v'.ownBlock = v.ownBlock ∨ v'.ownBlock = some w.heap.size) → wpList Try.prog ops Q rest (a.put o.dst v') w') : wpList Try.prog ops Q (o :: rest) a w := by
  obtain ⟨i, hi, hz0, hz1, hz2⟩ := info_parts info_rng
  refine wpList_append_own_at w hgd s x 89 ho B 53 i (.agg #[.string ⟨#[]⟩, .string ⟨#[]⟩, .bool false]) 3 40 Try.underlying89 hi hz0 hz1 hz2 rfl (by decide) v L.length (rcells L) hs hown ⟨g, 0, none⟩ 1 1 (rcells [u]) hx rfl ?_ ?_ (by unfold maxLen; omega) (by omega) hbase ?_
  · intro j y hj
    have hj' : j < 3 := by
      have := (List.getElem?_eq_some_iff.1 hj).1
      simpa [rcells, encR] using this
    have e : (⟨g, 0, none⟩ : Addr).add j = ⟨g, j, none⟩ := by unfold Addr.add; split <;> simp_all
    rw [e]
    have h4 : j = 0 ∨ j = 1 ∨ j = 2 := by omega
    rcases h4 with rfl | rfl | rfl <;> (simp [rcells, encR] at hj; subst hj; exact hC.cell rfl)
  · intro y hy
    simp [rcells, encR] at hy
    rcases hy with rfl | rfl | rfl <;> rfl
  · intro v' w' h1 h2 _ h3
    refine h v' w' ?_ h2 h3
    unfold OwnR
    rw [rcells_append, List.length_append]
    exact h1
end

theorem lt_of_le_of_lt9 {a b c : ByteArray} (h1 : ltB b a = false) (h2 : ltB b c = true) : ltB a c = true := by
  rcases ltB_tri a b with h | h | h
  · exact lt_trans' h h2
  · rw [h]; exact h2
  · rw [h] at h1; cases h1
theorem some_iff9 (r : Rg) : r.some ↔ r.emp = false := by
  unfold Rg.some Rg.emp emptyB
  cases r.op <;> cases ltB r.lo r.hi <;> simp
theorem inL_keep (L : List Rg) {R : List Rg} (h : ∀ r, r ∈ R ↔ r ∈ keepL L) (k : ByteArray) : inL R k ↔ inL L k := by
  constructor
  · rintro ⟨r, hr, hk⟩
    exact ⟨r, (List.mem_filter.1 ((h r).1 hr)).1, hk⟩
  · rintro ⟨r, hr, hk⟩
    refine ⟨r, (h r).2 (List.mem_filter.2 ⟨hr, ?_⟩), hk⟩
    rw [Bool.not_eq_true']
    cases he : r.emp
    · rfl
    · exfalso
      have he' : emptyB r.lo r.hi r.op = true := he
      simp only [emptyB, Bool.and_eq_true, Bool.not_eq_true'] at he'
      rcases hk.2 with h1 | h1
      · rw [he'.1] at h1; cases h1
      · have h3 : ltB r.lo r.hi = true := lt_of_le_of_lt9 hk.1 h1
        rw [h3] at he'
        exact absurd he'.2 (by simp)
theorem keep_some {L : List Rg} {R : List Rg} (h : ∀ r, r ∈ R ↔ r ∈ keepL L) : ∀ r ∈ R, r.some := by
  intro r hr
  have h1 := (List.mem_filter.1 ((h r).1 hr)).2
  rw [Bool.not_eq_true'] at h1
  exact (some_iff9 r).2 h1
theorem union_un {L R : List Rg} (hR : Rising R) (hm : ∀ r, r ∈ R ↔ r ∈ keepL L) : UnOf L (R.foldl stepU []) := by
  obtain ⟨h1, h2, _⟩ := union_inv hR (keep_some hm)
  exact ⟨h1, fun k => (h2 k).trans (inL_keep L hm k)⟩

theorem unionV_any {B : Nat} (v : Value) (L : List Rg) (w : World) (h : OwnR w B v L) (hlen : L.length ≤ 3518437208784) :
    Calls Try.prog 71 #[v] w fun e w' => ∃ (v' : Value) (U : List Rg), e = .returned v' ∧ OwnR w' w.heap.size v' U ∧ UnOf L U ∧ U.length ≤ L.length ∧ Below w.heap.size w w' := by
  obtain ⟨p, c, rfl, hr⟩ := h.row
  have hc : L.length ≤ c ∧ (p = none → c = 0) := by
    rcases h.form with ⟨e, rfl⟩ | ⟨g, cap, e, _, _⟩
    · obtain ⟨rfl, -, rfl⟩ := Value.slice.inj e
      exact ⟨by simp, fun _ => rfl⟩
    · obtain ⟨rfl, -, rfl⟩ := Value.slice.inj e
      exact ⟨h.cap.1, fun h => by cases h⟩
  refine (union_any L p c w hr hlen hc.1 hc.2).mono ?_
  rintro e w' ⟨v, R, rfl, h1, h2, h3, h4, h5⟩
  have h6 := foldU_len R []
  simp only [List.length_nil, Nat.zero_add] at h6
  exact ⟨v, _, rfl, h1, union_un h2 h3, by omega, h5⟩

theorem rngsAt_cons (s : Sp) (L : List Sp) (p : Pt) : (rngsAt (s :: L) p).length = (rngsAt L p).length + (if plcS s = p then 1 else 0) := by
  unfold rngsAt
  by_cases h : plcS s = p <;> simp [h]
theorem sum_one (s : Sp) (L : List Sp) : ∀ (P : List Pt), P.Nodup → (P.map (fun p => (rngsAt (s :: L) p).length)).sum ≤ (P.map (fun p => (rngsAt L p).length)).sum + 1 ∧ (plcS s ∉ P → (P.map (fun p => (rngsAt (s :: L) p).length)).sum = (P.map (fun p => (rngsAt L p).length)).sum)
  | [], _ => ⟨by simp, fun _ => rfl⟩
  | p :: P, h => by
    obtain ⟨h1, h2⟩ := List.pairwise_cons.1 h
    obtain ⟨i1, i2⟩ := sum_one s L P h2
    simp only [List.map_cons, List.sum_cons, rngsAt_cons s L p]
    constructor
    · by_cases hp : plcS s = p
      · have h3 : plcS s ∉ P := fun hm => h1 _ hm hp.symm
        rw [if_pos hp, i2 h3]
        omega
      · rw [if_neg hp]
        omega
    · intro hn
      have h4 : ¬ plcS s = p := fun e => hn (by rw [e]; simp)
      have h5 : plcS s ∉ P := fun hm => hn (List.mem_cons_of_mem _ hm)
      rw [if_neg h4, i2 h5, Nat.add_zero]
theorem sum_rngs (P : List Pt) (hP : P.Nodup) : ∀ (L : List Sp), (P.map (fun p => (rngsAt L p).length)).sum ≤ L.length
  | [] => by
    have : ∀ P : List Pt, (P.map (fun p => (rngsAt [] p).length)).sum = 0 := fun P => by
      induction P with
      | nil => rfl
      | cons p P ih => rw [List.map_cons, List.sum_cons, ih]; rfl
    rw [this P]
    exact Nat.le_refl _
  | s :: L => by
    have h1 := (sum_one s L P hP).1
    have h2 := sum_rngs P hP L
    rw [List.length_cons]
    omega
theorem layU_len (L : List Sp) : ∀ (M : List (Pt × List Rg)), (∀ x ∈ M, x.2.length ≤ (rngsAt L x.1).length) → (layU M).length ≤ ((M.map (·.1)).map (fun p => (rngsAt L p).length)).sum
  | [], _ => by simp [layU]
  | x :: M, h => by
    have h1 := layU_len L M (fun y hy => h y (List.mem_cons_of_mem _ hy))
    have h2 := h x (by simp)
    simp only [layU, List.length_append, List.length_map, List.map_cons, List.sum_cons]
    omega
theorem RisP.nodup {L : List Pt} (h : RisP L) : L.Nodup := List.Pairwise.imp (fun {a b} hab e => by subst e; rw [ltP_irrefl] at hab; cases hab) h

end

end Go.Proofs.Ytjeidpgkgjljcaa
