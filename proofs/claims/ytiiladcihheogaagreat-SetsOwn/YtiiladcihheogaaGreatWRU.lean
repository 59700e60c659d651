/- Of layer 2, what layer 17 wants: the document's Union. -/
import Derived.Test.YtiiladcihheogaaGreatWV13
namespace Go.Proofs.YtiiladcihheogaaGreat
open Go.RowKit
set_option maxRecDepth 100000

set_option maxHeartbeats 1000000 in
theorem joins_any (a b : Rg) (w : World) : Calls Tryz.prog 69 #[a.val, b.val] w fun e w' => e = .returned (.bool (touchB a b)) ∧ Below w.heap.size w w' := by
  obtain ⟨al, ah, ao⟩ := a
  obtain ⟨bl, bh, bo⟩ := b
  unfold touchB Rg.val
  dsimp only
  rw [← leq_not]
  cases ao <;> cases h1 : Op.bytesLess bl.toList ah.toList <;> cases h2 : (bl.toList == ah.toList)
  all_goals
    go_enter Tryz.func69, Tryz.ntmps69
    go_wp2
    go_ret
    exact ⟨rfl, by go_grown⟩


theorem lt_of_le_of_lt' {a b c : ByteArray} (h1 : ltB b a = false) (h2 : ltB b c = true) : ltB a c = true := by
  cases h : ltB a c with
  | true => rfl
  | false =>
    have := le_trans' h h1
    rw [this] at h2; cases h2
/-- the document's step: the end that does not matter stays till the end -/
def stepV (U : List Rg) (r : Rg) : List Rg := match U.getLast? with
  | none => [r]
  | some a => if touchB a r then (if r.op || (!a.op && ltB a.hi r.hi) then U.dropLast ++ [⟨a.lo, r.hi, r.op⟩] else U) else U ++ [r]
theorem touch_pl (a r : Rg) : touchB a.pl r = touchB a r := by
  unfold touchB
  rw [pl_op]
  cases h : a.op with
  | true => rfl
  | false => unfold Rg.pl; rw [if_neg (by simp [h])]
theorem join_pl (a r : Rg) : joinR a.pl r = (if r.op || (!a.op && ltB a.hi r.hi) then (⟨a.lo, r.hi, r.op⟩ : Rg) else a).pl := by
  obtain ⟨al, ah, ao⟩ := a
  obtain ⟨rl, rh, ro⟩ := r
  cases ao <;> cases ro <;> cases h : ltB ah rh <;> simp [joinR, Rg.pl, mxB, h]
theorem stepV_pl (U : List Rg) (r : Rg) : (stepV U r).map Rg.pl = stepU (U.map Rg.pl) r := by
  rcases List.eq_nil_or_concat U with rfl | ⟨V, a, rfl⟩
  · rfl
  · simp only [List.concat_eq_append, List.map_append, List.map_cons, List.map_nil]
    rw [stepU_snoc, touch_pl, join_pl]
    unfold stepV
    simp only [List.getLast?_append, List.getLast?_singleton, Option.some_or, List.dropLast_concat]
    cases touchB a r with
    | false => simp
    | true =>
      simp only [if_true]
      split <;> simp
theorem foldV_pl : ∀ (R U : List Rg), (R.foldl stepV U).map Rg.pl = R.foldl stepU (U.map Rg.pl)
  | [], _ => rfl
  | r :: R, U => by rw [List.foldl_cons, List.foldl_cons, foldV_pl R, stepV_pl]


/-- T is S with x at the place k, and what stands behind x begins behind it -/
def InsAt (S : List Rg) (x : Rg) (k : Nat) (T : List Rg) : Prop := ∃ A C, S = A ++ C ∧ A.length = k ∧ T = A ++ x :: C ∧ ∀ c ∈ C, ltB x.lo c.lo = true
theorem InsAt.start (S : List Rg) (x : Rg) : InsAt S x S.length (S ++ [x]) := ⟨S, [], by simp, rfl, rfl, fun _ h => by cases h⟩
theorem InsAt.len {S : List Rg} {x : Rg} {k : Nat} {T : List Rg} (h : InsAt S x k T) : T.length = S.length + 1 ∧ k ≤ S.length := by
  obtain ⟨A, C, rfl, rfl, rfl, _⟩ := h
  simp; omega
theorem InsAt.at {S : List Rg} {x : Rg} {k : Nat} {T : List Rg} (h : InsAt S x k T) (hk : k < T.length) : T[k] = x := by
  obtain ⟨A, C, rfl, rfl, rfl, _⟩ := h
  simp
theorem InsAt.swap {S : List Rg} {x : Rg} {k : Nat} {T : List Rg} (h : InsAt S x (k + 1) T) (hk : k + 1 < T.length) (hlt : ltB x.lo (T[k]'(by omega)).lo = true) : InsAt S x k ((T.set (k + 1) (T[k]'(by omega))).set k x) := by
  obtain ⟨A, C, rfl, hA, rfl, hC⟩ := h
  rcases List.eq_nil_or_concat A with rfl | ⟨A', a, rfl⟩
  · simp at hA
  · simp only [List.concat_eq_append, List.length_append, List.length_singleton, Nat.add_right_cancel_iff] at *
    subst hA
    have e : (A' ++ [a] ++ x :: C)[A'.length]'(by simp) = a := by simp
    rw [e] at hlt ⊢
    refine ⟨A', a :: C, by simp, rfl, ?_, ?_⟩
    · simp
    · intro c hc
      rcases List.mem_cons.1 hc with rfl | hc
      · exact hlt
      · exact hC c hc
theorem InsAt.done {S : List Rg} {x : Rg} {k : Nat} {T : List Rg} (h : InsAt S x k T) (hS : Rising S) (he : k = 0 ∨ ∃ a, T[k - 1]? = some a ∧ ltB x.lo a.lo = false) : Rising T ∧ ∀ r, r ∈ T ↔ (r ∈ S ∨ r = x) := by
  obtain ⟨A, C, rfl, rfl, rfl, hC⟩ := h
  obtain ⟨hA, hC2, hAC⟩ := List.pairwise_append.1 hS
  refine ⟨?_, fun r => ?_⟩
  · refine List.pairwise_append.2 ⟨hA, List.pairwise_cons.2 ⟨fun c hc => le_of_lt (hC c hc), hC2⟩, ?_⟩
    intro p hp q hq
    rcases List.mem_cons.1 hq with rfl | hq
    · rcases List.eq_nil_or_concat A with rfl | ⟨A', a, rfl⟩
      · cases hp
      · simp only [List.concat_eq_append] at *
        have hle : ltB q.lo a.lo = false := by
          rcases he with he | ⟨b, hb, hlt⟩
          · simp at he
          · have : b = a := by simpa using hb.symm
            rw [this] at hlt; exact hlt
        rcases List.mem_append.1 hp with h1 | h1
        · exact le_trans' ((List.pairwise_append.1 hA).2.2 p h1 a (by simp)) hle
        · rw [List.mem_singleton.1 h1]; exact hle
    · exact hAC p hp q hq
  · simp only [List.mem_append, List.mem_cons]
    constructor
    · rintro (h | h | h)
      · exact .inl (.inl h)
      · exact .inr h
      · exact .inl (.inr h)
    · rintro ((h | h) | h)
      · exact .inl h
      · exact .inr (.inr h)
      · exact .inr (.inl h)
theorem foldV_snoc (R : List Rg) (j : Nat) (hj : j < R.length) : (R.take (j + 1)).foldl stepV [] = stepV ((R.take j).foldl stepV []) R[j] := by
  rw [← List.take_append_getElem hj, List.foldl_append]; rfl
theorem stepV_len (U : List Rg) (r : Rg) : (stepV U r).length ≤ U.length + 1 := by
  have h := stepU_len (U.map Rg.pl) r
  rw [← stepV_pl] at h
  simpa using h
theorem foldV_len (R : List Rg) : (R.foldl stepV []).length ≤ R.length := by
  have h := foldU_len R []
  have e := foldV_pl R []
  simp only [List.map_nil] at e
  rw [← e] at h
  simpa using h
theorem stepV_snoc (U : List Rg) (a r : Rg) : stepV (U ++ [a]) r = if touchB a r then (if r.op || (!a.op && ltB a.hi r.hi) then U ++ [⟨a.lo, r.hi, r.op⟩] else U ++ [a]) else U ++ [a] ++ [r] := by
  unfold stepV
  simp


theorem OwnR.form1 {w : World} {B : Nat} {v : Value} {L : List Rg} {n : Nat} (h : OwnR w B v L) (hl : L.length = n + 1) : ∃ g cap, v = .slice (some ⟨g, 0, none⟩) (n + 1) cap ∧ B ≤ g ∧ g < w.heap.size := by
  rcases h.form with ⟨_, rfl⟩ | ⟨g, cap, rfl, h1, h2⟩
  · simp at hl
  · exact ⟨g, cap, by rw [hl], h1, h2⟩
theorem OwnR.at' {w : World} {B g n cap : Nat} {L : List Rg} (h : OwnR w B (.slice (some ⟨g, 0, none⟩) n cap) L) (hn : L.length = n) (i : Nat) (hi : i < L.length) :
    (w.cell? ⟨g, i * 3, none⟩ = some (.string L[i].lo) ∧ w.cell? ⟨g, i * 3 + 1, none⟩ = some (.string L[i].hi) ∧ w.cell? ⟨g, i * 3 + 2, none⟩ = some (.bool L[i].op)) ∧
    (w.frozen? ⟨g, i * 3, none⟩ = false ∧ w.frozen? ⟨g, i * 3 + 1, none⟩ = false ∧ w.frozen? ⟨g, i * 3 + 2, none⟩ = false) := by
  subst hn; exact h.at i hi
theorem OwnR.set' {w : World} {B g n cap : Nat} {L : List Rg} (h : OwnR w B (.slice (some ⟨g, 0, none⟩) n cap) L) (hn : L.length = n) (i : Nat) (hi : i < L.length) (r : Rg) :
    OwnR (((w.setCell ⟨g, i * 3, none⟩ (.string r.lo)).setCell ⟨g, i * 3 + 1, none⟩ (.string r.hi)).setCell ⟨g, i * 3 + 2, none⟩ (.bool r.op)) B (.slice (some ⟨g, 0, none⟩) n cap) (L.set i r) := by
  subst hn; exact h.set i hi r

theorem rcells_setHi : ∀ (L : List Rg) (i : Nat) (h : ByteArray) (hi : i < L.length), rcells (L.set i ⟨L[i].lo, h, L[i].op⟩) = (rcells L).set (i * 3 + 1) (.string h)
  | [], i, h, hi => by simp at hi
  | v :: L, 0, h, _ => rfl
  | v :: L, i + 1, h, hi => by
    have ih := rcells_setHi L i h (by simpa using hi)
    have e : (i + 1) * 3 + 1 = i * 3 + 1 + 3 := by omega
    have e2 : (v :: L)[i + 1] = L[i]'(by simpa using hi) := rfl
    rw [e2, List.set_cons_succ, rcells_cons, rcells_cons, e, ih]
    rfl
theorem rcells_setOp : ∀ (L : List Rg) (i : Nat) (h : Bool) (hi : i < L.length), rcells (L.set i ⟨L[i].lo, L[i].hi, h⟩) = (rcells L).set (i * 3 + 2) (.bool h)
  | [], i, h, hi => by simp at hi
  | v :: L, 0, h, _ => rfl
  | v :: L, i + 1, h, hi => by
    have ih := rcells_setOp L i h (by simpa using hi)
    have e : (i + 1) * 3 + 2 = i * 3 + 2 + 3 := by omega
    have e2 : (v :: L)[i + 1] = L[i]'(by simpa using hi) := rfl
    rw [e2, List.set_cons_succ, rcells_cons, rcells_cons, e, ih]
    rfl
theorem OwnR.setHi {w : World} {B g n cap : Nat} {L : List Rg} (h : OwnR w B (.slice (some ⟨g, 0, none⟩) n cap) L) (hn : L.length = n) (i : Nat) (hi : i < L.length) (x : ByteArray) :
    OwnR (w.setCell ⟨g, i * 3 + 1, none⟩ (.string x)) B (.slice (some ⟨g, 0, none⟩) n cap) (L.set i ⟨L[i].lo, x, L[i].op⟩) := by
  subst hn
  have h' : w.ownsRow B 40 3 (.slice (some ⟨g, 0, none⟩) L.length cap) L.length (rcells L) := h
  have h3 := (h'.stored (i * 3 + 1) (.string x)).1
  unfold OwnR
  rw [List.length_set, rcells_setHi L i x hi]
  exact h3
theorem OwnR.setOp {w : World} {B g n cap : Nat} {L : List Rg} (h : OwnR w B (.slice (some ⟨g, 0, none⟩) n cap) L) (hn : L.length = n) (i : Nat) (hi : i < L.length) (x : Bool) :
    OwnR (w.setCell ⟨g, i * 3 + 2, none⟩ (.bool x)) B (.slice (some ⟨g, 0, none⟩) n cap) (L.set i ⟨L[i].lo, L[i].hi, x⟩) := by
  subst hn
  have h' : w.ownsRow B 40 3 (.slice (some ⟨g, 0, none⟩) L.length cap) L.length (rcells L) := h
  have h3 := (h'.stored (i * 3 + 2) (.bool x)).1
  unfold OwnR
  rw [List.length_set, rcells_setOp L i x hi]
  exact h3
theorem OwnR.join {w : World} {B g n cap : Nat} {V : List Rg} {a : Rg} (h : OwnR w B (.slice (some ⟨g, 0, none⟩) (n + 1) cap) (V ++ [a])) (hn : V.length = n) (x : ByteArray) (y : Bool) :
    OwnR ((w.setCell ⟨g, n * 3 + 1, none⟩ (.string x)).setCell ⟨g, n * 3 + 2, none⟩ (.bool y)) B (.slice (some ⟨g, 0, none⟩) (n + 1) cap) (V ++ [⟨a.lo, x, y⟩]) := by
  subst hn
  have h1 := h.setHi (by simp) V.length (by simp) x
  have e1 : (V ++ [a]).set V.length ⟨((V ++ [a])[V.length]'(by simp)).lo, x, ((V ++ [a])[V.length]'(by simp)).op⟩ = V ++ [⟨a.lo, x, a.op⟩] := by simp
  rw [e1] at h1
  have h2 := h1.setOp (by simp) V.length (by simp) y
  have e2 : (V ++ [(⟨a.lo, x, a.op⟩ : Rg)]).set V.length ⟨((V ++ [(⟨a.lo, x, a.op⟩ : Rg)])[V.length]'(by simp)).lo, ((V ++ [(⟨a.lo, x, a.op⟩ : Rg)])[V.length]'(by simp)).hi, y⟩ = V ++ [⟨a.lo, x, y⟩] := by simp
  rw [e2] at h2
  exact h2
/-- the end that does not matter, struck out of the first k -/
def plK (U : List Rg) (k : Nat) : List Rg := (U.take k).map Rg.pl ++ U.drop k
theorem plK_zero (U : List Rg) : plK U 0 = U := by simp [plK]
theorem plK_all (U : List Rg) : plK U U.length = U.map Rg.pl := by simp [plK]
theorem plK_len (U : List Rg) (k : Nat) : (plK U k).length = U.length := by simp [plK]; omega
theorem plK_at (U : List Rg) (k : Nat) (hk : k < U.length) : (plK U k)[k]'(by rw [plK_len]; exact hk) = U[k] := by
  unfold plK
  rw [List.getElem_append_right (by simp; omega)]
  simp [Nat.min_eq_left (Nat.le_of_lt hk)]
theorem setmid (A : List Rg) (u v : Rg) (D : List Rg) (k : Nat) (h : A.length = k) : (A ++ u :: D).set k v = A ++ v :: D := by subst h; simp
theorem plK_succ (U : List Rg) (k : Nat) (hk : k < U.length) : plK U (k + 1) = (plK U k).set k U[k].pl := by
  have e1 : U.take (k + 1) = U.take k ++ [U[k]] := (List.take_append_getElem hk).symm
  have e2 : U.drop k = U[k] :: U.drop (k + 1) := List.drop_eq_getElem_cons hk
  have e3 : ((U.take k).map Rg.pl).length = k := by simp; omega
  unfold plK
  rw [e1, e2, setmid _ _ _ _ _ e3, List.map_append, List.append_assoc]
  rfl
/-- what is held while two ranges are held against each other: their cells -/
abbrev S2U (w : World) (g m b o : Nat) (al ah rl rh : ByteArray) (ao ro : Bool) (w' : World) : Prop :=
  w'.cell? ⟨g, m, none⟩ = some (.string al) ∧ w'.cell? ⟨g, m + 1, none⟩ = some (.string ah) ∧ w'.cell? ⟨g, m + 2, none⟩ = some (.bool ao) ∧
  w'.cell? ⟨b, o, none⟩ = some (.string rl) ∧ w'.cell? ⟨b, o + 1, none⟩ = some (.string rh) ∧ w'.cell? ⟨b, o + 2, none⟩ = some (.bool ro) ∧ Below w.heap.size w w'
theorem keepS2U {w : World} {g m b o : Nat} {al ah rl rh : ByteArray} {ao ro : Bool} {B : Nat} {wp w' : World} (hb : Below B wp w') (h : S2U w g m b o al ah rl rh ao ro wp) (hg : g < w.heap.size) (hb0 : b < w.heap.size) (hB : B = wp.heap.size) : S2U w g m b o al ah rl rh ao ro w' := by
  obtain ⟨h1, h2, h3, h4, h5, h6, hw⟩ := h
  have := hw.size
  have o : ∀ {b o : Nat} {v : Option Value}, b < w.heap.size → wp.cell? ⟨b, o, none⟩ = v → w'.cell? ⟨b, o, none⟩ = v := fun {b o v} hb' hc => (hb.cell (p := ⟨b, o, none⟩) (by show b < B; omega)).trans hc
  exact ⟨o hg h1, o hg h2, o hg h3, o hb0 h4, o hb0 h5, o hb0 h6, hw.trans (hb.mono (by omega))⟩

set_option maxHeartbeats 4000000 in
theorem runion_any (L : List Rg) (p : Option Addr) (c : Nat) (w : World) (hR : RowR w w.heap.size p L) (hlen : L.length ≤ 3518437208784) :
    Calls Tryz.prog 44 #[.slice p L.length c] w fun e w' => ∃ v T, e = .returned v ∧ OwnR w' w.heap.size v (T.foldl stepU []) ∧ Rising T ∧ (∀ r, r ∈ T ↔ r ∈ keepL L) ∧ T.length ≤ L.length ∧ Below w.heap.size w w' := by
  have HA : Hid (RowR _ _ _ _) := hR
  clear hR
  go_enter Tryz.func44, Tryz.ntmps44
  go_wp2_with fail
  go_loopw [3, 4] (fun u i wr => ∃ j : Nat, j ≤ L.length ∧ i = .int .i64 (j : Int) ∧ (∃ T, Hid (OwnR wr w.heap.size u T) ∧ Hid (Rising T ∧ ∀ r, r ∈ T ↔ r ∈ keepL (L.take j)) ∧ T.length ≤ j) ∧ Below w.heap.size w wr) (fun _ i _ => L.length - (intOf i).toNat)
  case atStart => exact ⟨0, Nat.zero_le _, by go_num, ⟨[], OwnR.nil _ _, ⟨List.Pairwise.nil, fun r => by simp [keepL]⟩, Nat.le_refl _⟩, Below.refl _ _⟩
  case round =>
    obtain ⟨j, hj, rfl, ⟨T, hO, hT, hTl⟩, hn⟩ := hrel
    by_cases hj0 : j = L.length
    · subst hj0
      rw [List.take_length] at hT
      generalize wr = w3 at *
      obtain ⟨q, cq, rfl, hRow⟩ := hO.out.row
      have HRw : Hid (RowR _ _ _ _) := hRow
      have hz := hn.size
      have HBr : Hid (Below w.heap.size w w3) := hn
      clear hRow hn hO
      go_wp2_with fail
      go_loopw [6, 7] (fun u i wx => ∃ k : Nat, k ≤ T.length ∧ i = .int .i64 (k : Int) ∧ Hid (OwnR wx w3.heap.size u ((T.take k).foldl stepV [])) ∧ Below w3.heap.size w3 wx) (fun _ i _ => T.length - (intOf i).toNat)
      case atStart => exact ⟨0, Nat.zero_le _, by go_num, OwnR.nil _ _, Below.refl _ _⟩
      case round =>
        obtain ⟨k, hk, rfl, hU, hX⟩ := hrel
        by_cases hk0 : k = T.length
        · subst hk0
          rw [List.take_length] at hU
          have HF : Hid ((T.foldl stepV []).map Rg.pl = T.foldl stepU []) := foldV_pl T []
          have hUl := foldV_len T
          generalize T.foldl stepV [] = U at *
          generalize wr = wx at *
          have HBx : Hid (Below w.heap.size w wx) := HBr.out.trans (hX.mono hz)
          have HU : Hid (OwnR wx w.heap.size _ U) := hU.out.mono hz
          clear hU hX
          obtain ⟨pu, cu, rfl, _⟩ := HU.out.row
          go_wp2_with fail
          go_loopw [9] (fun i wy => ∃ m : Nat, m ≤ U.length ∧ i = .int .i64 (m : Int) ∧ Hid (OwnR wy w.heap.size (.slice pu U.length cu) (plK U m)) ∧ Below w.heap.size w wy) (fun i _ => U.length - (intOf i).toNat)
          case atStart => exact ⟨0, Nat.zero_le _, by go_num, (show OwnR _ _ _ _ by rw [plK_zero]; exact HU.out), HBx.out⟩
          case round =>
            obtain ⟨m, hm, rfl, hP, hY⟩ := hrel
            by_cases hm0 : m = U.length
            · subst hm0
              rw [plK_all, HF.out] at hP
              go_wp2
              go_ret
              exact ⟨_, T, rfl, hP.out, hT.out.1, hT.out.2, hTl, hY⟩
            · have hm1 : m < U.length := by omega
              obtain ⟨g, cap, e, hg1, hg2⟩ := hP.out.form1 (n := U.length - 1) (by rw [plK_len]; omega)
              injection e with e1 e2 e3
              subst e1 e3
              clear e2
              have hcells := hP.out.at' (plK_len U m) m (by rw [plK_len]; exact hm1)
              rw [plK_at U m hm1] at hcells
              obtain ⟨⟨c0, c1', c2⟩, f0, f1, f2⟩ := hcells
              have HPS : Hid (plK U (m + 1) = (plK U m).set m U[m].pl) := plK_succ U m hm1
              have HPH : Hid (OwnR _ _ _ _) := hP.out.setHi (plK_len U m) m (by rw [plK_len]; exact hm1) ⟨#[]⟩
              rw [plK_at U m hm1] at HPH
              have HPN : Hid ((plK U m).set m U[m] = plK U m) := by
                have h : (plK U m).set m ((plK U m)[m]'(by rw [plK_len]; exact hm1)) = plK U m := List.set_getElem_self _
                rw [plK_at U m hm1] at h
                exact h
              generalize U[m] = r at *
              obtain ⟨rl, rh, ro⟩ := r
              dsimp only at c0 c1' c2 HPH
              cases ro
              · have e : Rg.pl ⟨rl, rh, false⟩ = ⟨rl, rh, false⟩ := rfl
                rw [e, HPN.out] at HPS
                clear HPH HPN e
                go_wp2_with fail
                go_roundw
                case rel => exact ⟨m + 1, hm1, by go_num, (show OwnR _ _ _ _ by rw [HPS.out]; exact hP.out), hY⟩
                case measure => simp [intOf]; omega
              · have e : Rg.pl ⟨rl, rh, true⟩ = ⟨rl, ⟨#[]⟩, true⟩ := rfl
                rw [e] at HPS
                clear HPN e
                go_wp2_with fail
                go_roundw
                case rel => exact ⟨m + 1, hm1, by go_num, (show OwnR _ _ _ _ by rw [HPS.out]; exact HPH.out), hY.setCell hg1 _⟩
                case measure => simp [intOf]; omega
        · have hk1 : k < T.length := by omega
          obtain ⟨b, o, rfl, hbB, d0, d1, d2⟩ := HRw.out k hk1
          have a0 := (hX.cell (p := ⟨b, o + k * 3, none⟩) hbB).trans d0
          have a1 := (hX.cell (p := ⟨b, o + k * 3 + 1, none⟩) hbB).trans d1
          have a2 := (hX.cell (p := ⟨b, o + k * 3 + 2, none⟩) hbB).trans d2
          have HS : Hid ((T.take (k + 1)).foldl stepV [] = stepV ((T.take k).foldl stepV []) T[k]) := foldV_snoc T k hk1
          have hul := foldV_len (T.take k)
          simp only [List.length_take] at hul
          clear d0 d1 d2
          generalize (T.take k).foldl stepV [] = U at *
          generalize T[k] = r at *
          obtain ⟨rl, rh, ro⟩ := r
          dsimp only at a0 a1 a2
          have hbX : b < wr.heap.size := Nat.lt_of_lt_of_le hbB hX.size
          rcases List.eq_nil_or_concat U with rfl | ⟨V, a, rfl⟩
          · have e : stepV [] ⟨rl, rh, ro⟩ = [⟨rl, rh, ro⟩] := rfl
            rw [e] at HS
            rcases hU.out.form with ⟨rfl, _⟩ | ⟨g, cap, rfl, hg1, hg2⟩
            · skip
              go_wp2_with fail
              go_quiet (fail)
              go_wp2_with (first | (at_builtin; refine wpList_appR _ rfl (.tmp 88) _ rfl w3.heap.size _ _ rfl (hU.out.kept (below_drewN (Below.refl _ _) nq)) ⟨rl, rh, ro⟩ _ rfl (by simp) (by simp only [List.length_nil]; omega) (by have := hX.size; simp at *; omega) ?_; intro v6 w6 h6 h7))
              go_roundw
              case rel => exact ⟨k + 1, hk1, by go_num, (show OwnR _ _ _ _ by rw [HS.out]; exact h6), (hX.trans ((below_drewN (Below.refl _ _) nq).mono hX.size)).trans h7⟩
              case measure => simp [intOf]; omega
            · skip
              go_wp2_with fail
              go_quiet (fail)
              go_wp2_with (first | (at_builtin; refine wpList_appR _ rfl (.tmp 88) _ rfl w3.heap.size _ _ rfl (hU.out.kept (below_drewN (Below.refl _ _) nq)) ⟨rl, rh, ro⟩ _ rfl (by simp) (by simp only [List.length_nil]; omega) (by have := hX.size; simp at *; omega) ?_; intro v6 w6 h6 h7))
              go_roundw
              case rel => exact ⟨k + 1, hk1, by go_num, (show OwnR _ _ _ _ by rw [HS.out]; exact h6), (hX.trans ((below_drewN (Below.refl _ _) nq).mono hX.size)).trans h7⟩
              case measure => simp [intOf]; omega
          · obtain ⟨al, ah, ao⟩ := a
            simp only [List.concat_eq_append] at *
            rcases hU.out.form with ⟨rfl, h0⟩ | ⟨g, cap, rfl, hg1, hg2⟩
            · simp at h0
            · obtain ⟨n, hVn⟩ : ∃ n, V.length = n := ⟨_, rfl⟩
              have hVl : (V ++ [(⟨al, ah, ao⟩ : Rg)]).length = n + 1 := by simp [hVn]
              rw [hVl] at hU hul
              have hV := hU.out.last hVn
              dsimp only at hV
              obtain ⟨⟨b0, b1, b2⟩, f0, f1, f2⟩ := hV
              have CT : Hid (∀ w1 : World, Calls Tryz.prog 69 #[.agg #[.string al, .string ah, .bool ao], .agg #[.string rl, .string rh, .bool ro]] w1 fun e w' => e = .returned (.bool (touchB ⟨al, ah, ao⟩ ⟨rl, rh, ro⟩)) ∧ Below w1.heap.size w1 w') := fun w1 => joins_any ⟨al, ah, ao⟩ ⟨rl, rh, ro⟩ w1
              have n0 : (0 : Int) ≤ (n : Int) := by omega
              have n1 : (n : Int) < (n : Int) + 1 := by omega
              rw [stepV_snoc] at HS
              generalize touchB ⟨al, ah, ao⟩ ⟨rl, rh, ro⟩ = tb at *
              have hbg : ¬ (⟨b, o + k * 3, none⟩ : Addr) = ⟨g, n * 3 + 1, none⟩ := by intro h; injection h; omega
              cases tb
              · simp only [Bool.false_eq_true, if_false] at HS
                go_wp2_with fail
                go_region_held3 (fun w' => S2U wr g (n * 3) b (o + k * 3) al ah rl rh ao ro w') (first | exact ⟨by simpa using b0, by simpa using b1, by simpa using b2, by simpa using a0, by simpa using a1, by simpa using a2, by go_grown⟩ | (apply keepS2U; assumption; assumption; exact hg2; exact hbX; first | exact rfl)) (first | (go_at_call 69; refine (CT.out _).mono ?_; rintro e w' ⟨rfl, hb⟩))
                have hS : S2U wr g (n * 3) b (o + k * 3) al ah rl rh ao ro w' := by assumption
                obtain ⟨e0, e1, e2, x0, x1, x2, hbw⟩ := hS
                go_wp2_with (first | (at_builtin; refine wpList_appR _ rfl (.tmp 88) _ rfl w3.heap.size _ _ rfl (hU.out.kept hbw) ⟨rl, rh, ro⟩ _ rfl (by simp) (by simp only [List.length_append, List.length_singleton]; omega) (by have := hX.size; have := hbw.size; simp at *; omega) ?_; intro v6 w6 h6 h7))
                go_roundw
                case rel => exact ⟨k + 1, hk1, by go_num, (show OwnR _ _ _ _ by rw [HS.out]; exact h6), (hX.trans (hbw.mono hX.size)).trans h7⟩
                case measure => simp [intOf]; omega
              · simp only [if_true] at HS
                go_wp2_with fail
                go_region_held3 (fun w' => S2U wr g (n * 3) b (o + k * 3) al ah rl rh ao ro w') (first | exact ⟨by simpa using b0, by simpa using b1, by simpa using b2, by simpa using a0, by simpa using a1, by simpa using a2, by go_grown⟩ | (apply keepS2U; assumption; assumption; exact hg2; exact hbX; first | exact rfl)) (first | (go_at_call 69; refine (CT.out _).mono ?_; rintro e w' ⟨rfl, hb⟩))
                have hS : S2U wr g (n * 3) b (o + k * 3) al ah rl rh ao ro w' := by assumption
                have HbS : Hid (S2U _ _ _ _ _ _ _ _ _ _ _ _) := hS
                obtain ⟨e0, e1, e2, x0, x1, x2, hbw⟩ := hS
                have k1 := (hbw.frozen (p := ⟨g, n * 3 + 1, none⟩) hg2).trans f1
                have k2 := (hbw.frozen (p := ⟨g, n * 3 + 2, none⟩) hg2).trans f2
                have HJ : Hid (∀ {wy : World}, Below wr.heap.size wr wy → ∀ x y, OwnR ((wy.setCell ⟨g, n * 3 + 1, none⟩ (.string x)).setCell ⟨g, n * 3 + 2, none⟩ (.bool y)) w3.heap.size (.slice (some ⟨g, 0, none⟩) (n + 1) cap) (V ++ [⟨al, x, y⟩])) := fun hb x y => (hU.out.kept hb).join hVn x y
                clear HbS CT
                have ng : ¬ b = g := by omega
                have gn : ¬ g = b := by omega
                cases ro
                · cases ao
                  · have hne : ∀ {x y : ByteArray}, ltB x y = true → (y.toList == x.toList) = false := by
                      intro x y h
                      rw [beq_eq_false_iff_ne]
                      intro e
                      unfold ltB at h
                      rw [e] at h
                      have := ltB_irrefl x
                      unfold ltB at this
                      rw [this] at h; cases h
                    have hne' : ∀ {x y : ByteArray}, ltB x y = true → (x.toList == y.toList) = false := by
                      intro x y h
                      have := hne h
                      rw [beq_eq_false_iff_ne] at this ⊢
                      exact fun e => this e.symm
                    rcases ltB_tri ah rh with hlt | hlt | hlt
                    · have u1 : Op.bytesLess rh.toList ah.toList = false := ltB_asymm hlt
                      have u2 : (rh.toList == ah.toList) = false := hne hlt
                      simp only [Bool.false_or, Bool.not_false, Bool.true_and, hlt, if_true] at HS
                      clear hlt hne hne'
                      go_wp2_with fail
                      go_quiet (fail)
                      have hq : Below wr.heap.size wr (w'.drewN nq) := hbw.trans ((below_drewN (Below.refl _ _) _).mono hbw.size)
                      have HX : Hid (_ ∧ _) := ⟨HJ.out hq rh false, ((hX.trans (hq.mono hX.size)).setCell (p := ⟨g, n * 3 + 1, none⟩) hg1 (.string rh)).setCell (p := ⟨g, n * 3 + 2, none⟩) hg1 (.bool false)⟩
                      go_wp2_with fail
                      go_roundw
                      case rel => exact ⟨k + 1, hk1, by go_num, (show OwnR _ _ _ _ by rw [HS.out]; exact HX.out.1), HX.out.2⟩
                      case measure => simp [intOf]; omega
                    · subst hlt
                      have u1 : Op.bytesLess ah.toList ah.toList = false := ltB_irrefl ah
                      have u2 : (ah.toList == ah.toList) = true := beq_self_eq_true _
                      have hlt : ltB ah ah = false := ltB_irrefl ah
                      simp only [Bool.false_or, Bool.not_false, Bool.true_and, hlt, Bool.false_eq_true, if_false] at HS
                      clear hlt hne hne'
                      go_wp2_with fail
                      go_quiet (fail)
                      have hq : Below wr.heap.size wr (w'.drewN nq) := hbw.trans ((below_drewN (Below.refl _ _) _).mono hbw.size)
                      go_wp2_with fail
                      go_roundw
                      case rel => exact ⟨k + 1, hk1, by go_num, (show OwnR _ _ _ _ by rw [HS.out]; exact hU.out.kept hq), hX.trans (hq.mono hX.size)⟩
                      case measure => simp [intOf]; omega
                    · have u1 : Op.bytesLess rh.toList ah.toList = true := hlt
                      have u2 : (rh.toList == ah.toList) = false := hne' hlt
                      have hlt2 : ltB ah rh = false := ltB_asymm hlt
                      simp only [Bool.false_or, Bool.not_false, Bool.true_and, hlt2, Bool.false_eq_true, if_false] at HS
                      clear hlt hlt2 hne hne'
                      go_wp2_with fail
                      go_quiet (fail)
                      have hq : Below wr.heap.size wr (w'.drewN nq) := hbw.trans ((below_drewN (Below.refl _ _) _).mono hbw.size)
                      go_wp2_with fail
                      go_roundw
                      case rel => exact ⟨k + 1, hk1, by go_num, (show OwnR _ _ _ _ by rw [HS.out]; exact hU.out.kept hq), hX.trans (hq.mono hX.size)⟩
                      case measure => simp [intOf]; omega
                  · simp only [Bool.false_or, Bool.not_true, Bool.false_and, Bool.false_eq_true, if_false] at HS
                    go_wp2_with fail
                    go_quiet (fail)
                    have hq : Below wr.heap.size wr (w'.drewN nq) := hbw.trans ((below_drewN (Below.refl _ _) _).mono hbw.size)
                    go_wp2_with fail
                    go_roundw
                    case rel => exact ⟨k + 1, hk1, by go_num, (show OwnR _ _ _ _ by rw [HS.out]; exact hU.out.kept hq), hX.trans (hq.mono hX.size)⟩
                    case measure => simp [intOf]; omega
                · simp only [Bool.true_or, if_true] at HS
                  go_wp2_with fail
                  go_quiet (fail)
                  have hq : Below wr.heap.size wr (w'.drewN nq) := hbw.trans ((below_drewN (Below.refl _ _) _).mono hbw.size)
                  have HX : Hid (_ ∧ _) := ⟨HJ.out hq rh true, ((hX.trans (hq.mono hX.size)).setCell (p := ⟨g, n * 3 + 1, none⟩) hg1 (.string rh)).setCell (p := ⟨g, n * 3 + 2, none⟩) hg1 (.bool true)⟩
                  go_wp2_with fail
                  go_roundw
                  case rel => exact ⟨k + 1, hk1, by go_num, (show OwnR _ _ _ _ by rw [HS.out]; exact HX.out.1), HX.out.2⟩
                  case measure => simp [intOf]; omega
    · have hj1 : j < L.length := by omega
      obtain ⟨b, o, rfl, hbB, d0, d1, d2⟩ := HA.out j hj1
      have a0 := (hn.cell (p := ⟨b, o + j * 3, none⟩) hbB).trans d0
      have a1 := (hn.cell (p := ⟨b, o + j * 3 + 1, none⟩) hbB).trans d1
      have a2 := (hn.cell (p := ⟨b, o + j * 3 + 2, none⟩) hbB).trans d2
      have HK : Hid (keepL (L.take (j + 1)) = if L[j].emp then keepL (L.take j) else keepL (L.take j) ++ [L[j]]) := keepL_snoc L j hj1
      clear d0 d1 d2
      generalize L[j] = r at *
      have CE : Hid (∀ w1 : World, Calls Tryz.prog 68 #[.agg #[.string r.lo, .string r.hi, .bool r.op]] w1 fun e w' => e = .returned (.bool r.emp) ∧ Below w1.heap.size w1 w') := fun w1 => rempty_any r.lo r.hi r.op w1
      cases hem : r.emp
      · rw [hem] at CE HK
        simp only [Bool.false_eq_true, if_false] at HK
        obtain ⟨rl, rh, ro⟩ := r
        dsimp only at a0 a1 a2 CE
        go_wp2_with (first | (go_at_call 68; refine (CE.out _).mono ?_; rintro e w5 ⟨rfl, hb5⟩; have g0 := (hb5.cell (p := ⟨b, o + j * 3, none⟩) (Nat.lt_of_lt_of_le hbB hn.size)).trans a0; have g1 := (hb5.cell (p := ⟨b, o + j * 3 + 1, none⟩) (Nat.lt_of_lt_of_le hbB hn.size)).trans a1; have g2 := (hb5.cell (p := ⟨b, o + j * 3 + 2, none⟩) (Nat.lt_of_lt_of_le hbB hn.size)).trans a2; clear a0 a1 a2) | (at_builtin; refine wpList_appR _ rfl (.tmp 21) _ rfl w.heap.size _ _ rfl (hO.out.kept hb5) ⟨rl, rh, ro⟩ _ rfl (by simp) (by omega) (by have := hb5.size; have := hn.size; omega) ?_; intro v6 w6 h6 h7; obtain ⟨g, cap, rfl, hg1, hg2⟩ := h6.form1 (n := T.length) (by simp); have HO6 : Hid (OwnR _ _ _ _) := h6; have hb6 : Below w.heap.size w w6 := (hn.trans (hb5.mono hn.size)).trans h7; clear g0 g1 g2 h6 h7 hb5))
        obtain ⟨t, ht⟩ : ∃ t, T.length = t := ⟨_, rfl⟩
        rw [ht] at HO6 hTl
        simp only [ht]
        have HI0 : Hid (InsAt T ⟨rl, rh, ro⟩ t (T ++ [⟨rl, rh, ro⟩])) := by rw [← ht]; exact InsAt.start T _
        go_wp2_with fail
        go_loopw [5] (fun k wr' => ∃ m : Nat, k = .int .i64 (m : Int) ∧ m ≤ t ∧ (∃ T', Hid (OwnR wr' w.heap.size (.slice (some ⟨g, 0, none⟩) (t + 1) cap) T') ∧ Hid (InsAt T ⟨rl, rh, ro⟩ m T')) ∧ Below w.heap.size w wr') (fun k _ => (intOf k).toNat)
        case atStart => exact ⟨t, by go_num, Nat.le_refl _, ⟨_, HO6, HI0⟩, hb6⟩
        case round =>
          obtain ⟨m, rfl, hm, ⟨T', hO', hI'⟩, hn'⟩ := hrel
          have hl' : T'.length = t + 1 := by have := hI'.out.len; omega
          have FIN : Hid (∀ {wx : World}, Hid (OwnR wx w.heap.size (.slice (some ⟨g, 0, none⟩) (t + 1) cap) T') → (m = 0 ∨ ∃ a, T'[m - 1]? = some a ∧ ltB rl a.lo = false) → Below w.heap.size w wx → ∃ j' : Nat, j' ≤ L.length ∧ Value.int .i64 ((j : Int) + 1) = .int .i64 (j' : Int) ∧ (∃ T, Hid (OwnR wx w.heap.size (.slice (some ⟨g, 0, none⟩) (t + 1) cap) T) ∧ Hid (Rising T ∧ ∀ r, r ∈ T ↔ r ∈ keepL (L.take j')) ∧ T.length ≤ j') ∧ Below w.heap.size w wx) := by
            intro wx ho he hb
            obtain ⟨q1, q2⟩ := hI'.out.done hT.out.1 he
            refine ⟨j + 1, hj1, by go_num, ⟨T', ho, ⟨q1, fun r => ?_⟩, by omega⟩, hb⟩
            rw [q2, HK.out, List.mem_append, List.mem_singleton, hT.out.2]
          rcases Nat.eq_zero_or_pos m with rfl | hm0
          · go_wp2_with fail
            go_quiet (fail)
            go_wp2_with fail
            go_roundw
            case rel => exact FIN.out (hO'.out.kept (below_drewN (Below.refl _ _) _)) (by first | exact .inl rfl | exact .inl trivial) (hn'.trans ((below_drewN (Below.refl _ _) _).mono hn'.size))
            case measure => simp [intOf]; omega
          · obtain ⟨m, rfl⟩ : ∃ m', m = m' + 1 := ⟨m - 1, by omega⟩
            obtain ⟨⟨x0, x1, x2⟩, k0, k1, k2⟩ := hO'.out.at' hl' (m + 1) (by omega)
            obtain ⟨⟨y0, y1, y2⟩, l0, l1, l2⟩ := hO'.out.at' hl' m (by omega)
            rw [hI'.out.at (by omega)] at x0 x1 x2
            dsimp only at x0 x1 x2
            have HY : Hid (T'[m]? = some (T'[m]'(by omega))) := List.getElem?_eq_getElem (by omega)
            have HSW : Hid (ltB rl (T'[m]'(by omega)).lo = true → InsAt T ⟨rl, rh, ro⟩ m ((T'.set (m + 1) (T'[m]'(by omega))).set m ⟨rl, rh, ro⟩)) := fun h => hI'.out.swap (by omega) h
            generalize T'[m]'(by omega) = y at *
            obtain ⟨yl, yh, yo⟩ := y
            dsimp only at y0 y1 y2 HSW
            cases hlt : ltB rl yl
            · have hlt' : Op.bytesLess rl.toList yl.toList = false := hlt
              go_wp2_with fail
              go_quiet (fail)
              go_wp2_with fail
              go_roundw
              case rel => exact FIN.out (hO'.out.kept (below_drewN (Below.refl _ _) _)) (.inr ⟨_, HY.out, hlt⟩) (hn'.trans ((below_drewN (Below.refl _ _) _).mono hn'.size))
              case measure => simp [intOf]; omega
            · have hlt' : Op.bytesLess rl.toList yl.toList = true := hlt
              have hI2 : Hid (InsAt _ _ _ _) := HSW.out hlt
              go_wp2_with fail
              go_quiet (fail)
              go_wp2_with fail
              go_region
              have hO2 : OwnR _ _ _ _ := (OwnR.set' (OwnR.set' (hO'.out.kept (below_drewN (Below.refl _ _) (nq + 1))) hl' (m + 1) (by omega) ⟨yl, yh, yo⟩) (by simp [hl']) m (by simp; omega) ⟨rl, rh, ro⟩)
              have hb2 : Below w.heap.size w _ := ((((((hn'.trans ((below_drewN (Below.refl _ _) (nq + 1)).mono hn'.size)).setCell (p := ⟨g, (m + 1) * 3, none⟩) hg1 (.string yl)).setCell (p := ⟨g, (m + 1) * 3 + 1, none⟩) hg1 (.string yh)).setCell (p := ⟨g, (m + 1) * 3 + 2, none⟩) hg1 (.bool yo)).setCell (p := ⟨g, m * 3, none⟩) hg1 (.string rl)).setCell (p := ⟨g, m * 3 + 1, none⟩) hg1 (.string rh)).setCell (p := ⟨g, m * 3 + 2, none⟩) hg1 (.bool ro)
              have HX : Hid (_ ∧ _) := ⟨hO2, hb2⟩
              clear hO2 hb2
              go_wp2_with fail
              go_roundw
              case rel => exact ⟨m, by go_num, by omega, ⟨_, HX.out.1, hI2⟩, HX.out.2⟩
              case measure => simp [intOf]
      · rw [hem] at CE HK
        simp only [if_true] at HK
        go_wp2_with (first | (go_at_call 68; refine (CE.out _).mono ?_; rintro e w5 ⟨rfl, hb5⟩))
        go_roundw
        case rel => exact ⟨j + 1, hj1, by go_num, ⟨T, hO.out.kept hb5, (show _ ∧ _ by rw [HK.out]; exact hT.out), by omega⟩, hn.trans (hb5.mono hn.size)⟩
        case measure => simp [intOf]; omega
end Go.Proofs.YtiiladcihheogaaGreat
