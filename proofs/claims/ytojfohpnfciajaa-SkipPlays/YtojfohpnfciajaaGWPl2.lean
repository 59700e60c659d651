/- Layer 12: append of entries that are read. Layer 12: the document's Levels. -/
import Derived.Test.YtojfohpnfciajaaGLSkH
import Derived.Test.YtojfohpnfciajaaGMPl12
namespace Go.Proofs.Ytojfohpnfciajaa
open Go.RowKit
set_option maxRecDepth 100000

/-- entries that stand at a place in memory -/
def SrcV (w : World) (u : Value) (X : List En) : Prop := (u = .slice none 0 0 ∧ X = []) ∨ ∃ g o c, u = .slice (some ⟨g, o, none⟩) X.length c ∧ ∀ j y, (X.flatMap enC)[j]? = some y → w.cell? ⟨g, o + j, none⟩ = some y
theorem en_len (X : List En) : (X.flatMap enC).length = X.length * 3 := by
  induction X with
  | nil => rfl
  | cons a X ih => rw [List.flatMap_cons, List.length_append, ih, List.length_cons]; simp [enC]; omega
theorem en_one (X : List En) : ∀ u ∈ X.flatMap enC, u.oneCell' = true := by
  intro u hu
  obtain ⟨e, _, he⟩ := List.mem_flatMap.1 hu
  simp only [enC, List.mem_cons, List.not_mem_nil, or_false] at he
  rcases he with rfl | rfl | rfl <;> rfl
theorem en_take (S : List En) (m : Nat) : (S.take m).flatMap enC = (S.flatMap enC).take (m * 3) := by
  induction S generalizing m with
  | nil => simp
  | cons a S ih =>
    cases m with
    | zero => simp
    | succ m =>
      rw [List.take_succ_cons, List.flatMap_cons, List.flatMap_cons, ih, List.take_append]
      have e : (enC a).length = 3 := rfl
      have h1 : (enC a).take ((m + 1) * 3) = enC a := List.take_of_length_le (by rw [e]; omega)
      rw [e, h1, show (m + 1) * 3 - 3 = m * 3 by omega]
theorem en_drop (S : List En) (m : Nat) : (S.drop m).flatMap enC = (S.flatMap enC).drop (m * 3) := by
  induction S generalizing m with
  | nil => simp
  | cons a S ih =>
    cases m with
    | zero => simp
    | succ m =>
      rw [List.drop_succ_cons, List.flatMap_cons, ih, List.drop_append]
      have e : (enC a).length = 3 := rfl
      have h1 : (enC a).drop ((m + 1) * 3) = [] := List.drop_eq_nil_of_le (by rw [e]; omega)
      rw [e, h1, List.nil_append, show (m + 1) * 3 - 3 = m * 3 by omega]
theorem ownE_cells {w : World} {B : Nat} {p : Option Addr} {n c : Nat} {S : List En} (h : OwnE w B (.slice p n c) S) : n = S.length ∧ n ≤ c ∧ ((p = none ∧ c = 0 ∧ S = []) ∨ ∃ g, p = some ⟨g, 0, none⟩ ∧ g < w.heap.size ∧ ∀ j y, (S.flatMap enC)[j]? = some y → w.cell? ⟨g, j, none⟩ = some y) := by
  rcases h.2 with ⟨h1, h2⟩ | ⟨g, cap, cur, e, hb, hg, hc, r⟩
  · injection h1 with e1 e2 e3
    subst e1 e2 e3
    exact ⟨h2.symm, Nat.le_refl _, .inl ⟨rfl, rfl, List.eq_nil_of_length_eq_zero h2⟩⟩
  · injection e with e1 e2 e3
    subst e1 e2 e3
    refine ⟨rfl, hc, .inr ⟨g, rfl, (Array.getElem?_eq_some_iff.1 hg).1, fun j y hj => ?_⟩⟩
    have hl : j < S.length * 3 := by
      have := (List.getElem?_eq_some_iff.1 hj).1
      rw [en_len] at this
      exact this
    rw [World.ownsRow.cellAt h j hl]
    exact hj
theorem src_take {w : World} {B : Nat} {p : Option Addr} {n c : Nat} {S : List En} (h : OwnE w B (.slice p n c) S) {m : Nat} (hm : m ≤ S.length) : SrcV w (.slice p m c) (S.take m) := by
  obtain ⟨e1, e2, h3⟩ := ownE_cells h
  rcases h3 with ⟨rfl, rfl, rfl⟩ | ⟨g, rfl, hg, hc⟩
  · have e : m = 0 := by simpa using hm
    subst e
    exact .inl ⟨rfl, rfl⟩
  · refine .inr ⟨g, 0, c, by rw [List.length_take, Nat.min_eq_left hm], fun j y hj => ?_⟩
    rw [en_take] at hj
    rw [Nat.zero_add]
    refine hc j y ?_
    rw [List.getElem?_take] at hj
    split at hj
    · exact hj
    · cases hj
theorem src_drop {w : World} {B : Nat} {p : Option Addr} {n c : Nat} {S : List En} (h : OwnE w B (.slice p n c) S) {m : Nat} (hm : m ≤ S.length) : SrcV w (.slice (if c = m then p else p.map (·.add (m * 3))) (n - m) (c - m)) (S.drop m) := by
  obtain ⟨e1, e2, h3⟩ := ownE_cells h
  rcases h3 with ⟨rfl, rfl, rfl⟩ | ⟨g, rfl, hg, hc⟩
  · have e : m = 0 := by simpa using hm
    subst e
    subst e1
    exact .inl ⟨rfl, rfl⟩
  · by_cases hcm : c = m
    · rw [if_pos hcm]
      have e : S.drop m = [] := List.drop_eq_nil_of_le (by omega)
      rw [e]
      exact .inr ⟨g, 0, c - m, by rw [e1, show S.length - m = 0 by omega]; rfl, fun j y hj => by simp at hj⟩
    · rw [if_neg hcm]
      refine .inr ⟨g, m * 3, c - m, ?_, fun j y hj => ?_⟩
      · rw [List.length_drop, e1]
        have e : (⟨g, 0, none⟩ : Addr).add (m * 3) = ⟨g, m * 3, none⟩ := by unfold Addr.add; split <;> simp_all
        rw [Option.map_some, e]
      · rw [en_drop, List.getElem?_drop] at hj
        exact hc _ y hj
theorem src_none (w : World) (g o c : Nat) : SrcV w (.slice (some ⟨g, o, none⟩) 0 c) [] := .inr ⟨g, o, c, rfl, fun j y hj => by simp at hj⟩
/-- 'append(l, X...)' -/
theorem wpList_appE {ops : Array Oper} {rest : List Oper} {o : Oper} {a : Act} {Q : Exit → Act → World → Prop} (w : World) (hgd : o.guard = none) (s x : Operand)
    (ho : o.op = .call { callee := .builtin .append, args := #[s, x], argTypes := #[26, 26] })
    (B : Nat) (v u : Value) (A X : List En) (hs : a.eval s = v) (hown : OwnE w B v A) (hx : a.eval x = u) (hu : SrcV w u X)
    (hl : A.length + X.length ≤ 4000000000002) (hbase : B ≤ w.heap.size)
    (h : ∀ v' w', OwnE w' B v' (A ++ X) → Below B w w' → wpList Try.prog ops Q rest (a.put o.dst v') w') : wpList Try.prog ops Q (o :: rest) a w := by
  obtain ⟨i, hi, hz0, hz1, hz2⟩ := info_parts1 info_en
  rcases hu with ⟨rfl, rfl⟩ | ⟨g, o', c, rfl, hc⟩
  · refine wpList_append_own_none hgd s x _ ho B 48 i 3 Try.underlying26 hi v _ _ hs hown hx (h v w (by rw [List.append_nil]; exact hown) (Below.refl _ _))
  · refine wpList_append_own _ hgd s x 26 ho B 48 i _ 3 32 Try.underlying26 hi hz0 hz1 hz2 rfl (by decide) v A.length _ hs hown ⟨g, o', none⟩ X.length c (X.flatMap enC) hx (en_len X) (fun j y hj => ?_) (en_one X) (by unfold maxLen; omega) (by omega) hbase ?_
    · have e : (⟨g, o', none⟩ : Addr).add j = ⟨g, o' + j, none⟩ := by unfold Addr.add; split <;> simp_all
      rw [e]
      exact hc j y hj
    · intro v' w' h1 h2 _
      refine h v' w' ?_ ((Below.refl _ _).grown h2 hbase (fun k hk => (hown.lt k hk).1))
      show World.ownsRow _ _ _ _ _ _ _
      rw [List.flatMap_append, List.length_append]
      exact h1

end Go.Proofs.Ytojfohpnfciajaa

namespace Go.Proofs.Ytojfohpnfciajaa
open Go.RowKit
set_option maxRecDepth 100000

theorem OwnKs.app {w2 w6 : World} {B n ck : Nat} {u v6 : Value} {pk : Option Addr} {V : List (List ByteArray)} {K : List ByteArray} {vs : List Value} (hv1 : vs.length = V.length) (hv2 : w2.ownsRow B 49 1 u vs.length vs) (hv3 : ∀ i (h1 : i < vs.length) (h2 : i < V.length), OwnK w2 B vs[i] V[i]) (hk : OwnK w2 B (.slice pk n ck) K)
    (h6 : w6.ownsRow B 49 1 v6 (vs.length + 1) (vs ++ [.slice pk n ck])) (h8 : (w2.alloc (.cells [Value.slice pk n ck].toArray 49)).grownBy w6 u.ownBlock) : OwnKs w6 B v6 (V ++ [K]) := by
  have hal : Below w2.heap.size w2 (w2.alloc (.cells [Value.slice pk n ck].toArray 49)) := (Below.refl _ _).alloc (Nat.le_refl _) _
  have hrow := owns_kept hv2 hal
  refine ⟨vs ++ [.slice pk n ck], by rw [List.length_append, List.length_append, hv1]; rfl, by rw [List.length_append]; exact h6, fun i a b => ?_⟩
  have keepK : ∀ {x : Value} {K : List ByteArray}, OwnK w2 B x K → OwnK w6 B x K := fun hk => owns_other (owns_kept hk hal) hrow (by decide) h8
  rcases Nat.lt_or_ge i vs.length with h9 | h9
  · have e1 : (vs ++ [Value.slice pk n ck])[i] = vs[i] := List.getElem_append_left h9
    have e2 : (V ++ [K])[i] = V[i]'(by rw [← hv1]; exact h9) := List.getElem_append_left (by rw [← hv1]; exact h9)
    rw [e1, e2]
    exact keepK (hv3 i h9 _)
  · have hi : i = vs.length := by
      rw [List.length_append, List.length_singleton] at a
      omega
    subst hi
    have e1 : (vs ++ [Value.slice pk n ck])[vs.length] = .slice pk n ck := by rw [List.getElem_append_right (Nat.le_refl _)]; simp
    have e2 : (V ++ [K])[vs.length] = K := by
      apply Option.some.inj
      rw [← List.getElem?_eq_getElem b, List.getElem?_append_right (by rw [hv1]; exact Nat.le_refl _), hv1, Nat.sub_self]
      rfl
    rw [e1, e2]
    exact keepK hk
/-- levels in the making -/
structure RlS (w wq : World) (p : Option Addr) (S : List En) (so : Value) (m : Nat) : Prop where
  o : OwnKs wq w.heap.size so (lvsE S (min m (topE S 16)))
  r : RdE wq p S
  b : Below w.heap.size w wq
theorem RdE.low {w w' : World} {p : Option Addr} {S : List En} {B : Nat} (h : RdE w p S) (hl : ∀ j (_hj : j < S.length), ∃ g, p = some ⟨g, 0, none⟩ ∧ g < B) (hb : Below B w w') : RdE w' p S := by
  intro j hj
  obtain ⟨g, e2, hg, c0, c1, c2⟩ := h j hj
  obtain ⟨g', e3, hg'⟩ := hl j hj
  rw [e2] at e3
  injection e3 with e3
  injection e3 with e3
  subst e3
  have k : ∀ n v, w.cell? ⟨g, n, none⟩ = some v → w'.cell? ⟨g, n, none⟩ = some v := fun n v hc => (hb.cell (p := ⟨g, n, none⟩) hg').trans hc
  exact ⟨g, e2, Nat.lt_of_lt_of_le hg hb.size, k _ _ c0, k _ _ c1, k _ _ c2⟩
theorem min_on {S : List En} {m : Nat} (hm : m < 16) (h : keyE m S ≠ []) : lvsE S (min (m + 1) (topE S 16)) = lvsE S (min m (topE S 16)) ++ [keyE m S] := by
  have h1 : m < topE S 16 := by
    rcases Nat.lt_or_ge m (topE S 16) with h2 | h2
    · exact h2
    · exact absurd (topE_none S 16 m h2 hm) h
  rw [Nat.min_eq_left (by omega), Nat.min_eq_left (by omega), lvsE_succ]
theorem min_off {S : List En} {m : Nat} (h : keyE m S = []) : lvsE S (min (m + 1) (topE S 16)) = lvsE S (min m (topE S 16)) := by
  have h1 : topE S 16 ≤ m := by
    rcases Nat.lt_or_ge m (topE S 16) with h2 | h2
    · exact absurd h (topE_key S 16 m h2)
    · exact h2
  rw [Nat.min_eq_right (by omega), Nat.min_eq_right (by omega)]

set_option maxHeartbeats 8000000 in
theorem rlevels_any (S : List En) (B : Nat) (v : Value) (w : World) (hO : OwnE w B v S) (hl : S.length < 4000000000000) :
    Calls Try.prog 13 #[v] w fun e w' => ∃ v', e = .returned v' ∧ OwnKs w' w.heap.size v' (lvsE S (topE S 16)) ∧ Below w.heap.size w w' := by
  obtain ⟨p, c, rfl, hR⟩ := own_rd hO
  have HQ0 : Hid (RlS w w p S (.slice none 0 0) 0) := ⟨by rw [Nat.zero_min]; exact ⟨[], rfl, World.ownsRow_nil _ _ _ _, fun i h => absurd h (by simp)⟩, hR, Below.refl _ _⟩
  have HRl : Hid (∀ j (hj : j < S.length), ∃ g, p = some ⟨g, 0, none⟩ ∧ g < w.heap.size) := fun j hj => by
    obtain ⟨g, e2, hg, _⟩ := hR j hj
    exact ⟨g, e2, hg⟩
  have HL : Hid (S.length < 4000000000000) := hl
  obtain ⟨n, hn⟩ : ∃ n, S.length = n := ⟨_, rfl⟩
  have HN : Hid (S.length = n) := hn
  rw [hn] at hl ⊢
  clear hO hR hn
  go_enter Try.func13, Try.ntmps13
  go_wp2_with fail
  go_loopw [3, 4] (fun so sn wq => ∃ m : Nat, 1 ≤ m ∧ m ≤ 17 ∧ sn = .int .i64 (m : Int) ∧ Hid (RlS w wq p S so (m - 1))) (fun _ sn _ => (17 - intOf sn).toNat)
  case atStart => exact ⟨1, by omega, by omega, rfl, HQ0⟩
  case round =>
    clear HQ0
    obtain ⟨m, hm1, hm2, rfl, HI⟩ := hrel
    generalize wr = wo at *
    rcases Nat.lt_or_eq_of_le hm2 with hlt | heq
    · have g1 : decide ((m : Int) ≤ 16) = true := by simp; omega
      go_wp2_with fail
      go_loopw [5, 6] (fun sk si wq => ∃ i : Nat, i ≤ n ∧ si = .int .i64 (i : Int) ∧ Hid (OwnK wq wo.heap.size sk (keyI (m - 1) S i) ∧ Below wo.heap.size wo wq)) (fun _ si _ => ((n : Int) - intOf si).toNat)
      case atStart => exact ⟨0, by omega, rfl, by rw [keyI_zero]; exact ⟨World.ownsRow_nil _ _ _ _, Below.refl _ _⟩⟩
      case round =>
        obtain ⟨i, hi, rfl, HJ⟩ := hrel
        rcases Nat.lt_or_eq_of_le hi with hlt2 | heq2
        · have g2 : decide ((i : Int) < (n : Int)) = true := by simp; omega
          have hltS : i < S.length := by rw [HN.out]; exact hlt2
          obtain ⟨ga, rfl, -, a0, -, a2⟩ := (HI.out.r.on HJ.out.2) i hltS
          by_cases hh : m ≤ S[i].h
          · have HKy : Hid (keyI (m - 1) S (i + 1) = keyI (m - 1) S i ++ [S[i].k]) := keyI_on hltS (by omega)
            have HLb : Hid ((keyI (m - 1) S i).length < 4000000000000) := by
              have h1 := keyI_le (m - 1) S i
              have : (keyI (m - 1) S i).length < 4000000000000 := by omega
              exact this
            have g3 : (m : Int) ≤ (S[i].h : Int) := by omega
            generalize S[i] = e0 at *
            clear hh
            go_wp2_with (first | (at_builtin; go_loud (refine wpList_app1 wr rfl (.tmp 24) (.tmp 30) 9 49 _ 1 16 rfl Try.underlying49 info_str rfl (by decide) wo.heap.size _ _ _ (by rfl) HJ.out.1 [.string e0.k] rfl (by intro u hu; simp only [List.mem_cons, List.not_mem_nil, or_false] at hu; rcases hu with rfl; rfl) _ rfl (by simp) (by have := HLb.out; omega) (by have := HLb.out; omega) HJ.out.2.size ?_); intro v6 w6 h6 h7 h8; refine Hid.out ?_))
            have HJ6 : Hid (OwnK w6 wo.heap.size v6 (keyI (m - 1) S (i + 1)) ∧ Below wo.heap.size wo w6) := by
              refine ⟨?_, HJ.out.2.trans h7⟩
              show World.ownsRow _ _ _ _ _ _ _
              rw [HKy.out, List.length_append, List.map_append]
              exact h6
            clear h6 h7 h8
            unfold Hid
            go_wp2_with fail
            go_roundw
            case rel => exact ⟨i + 1, by omega, by go_num, HJ6⟩
            case measure => simp [intOf]; omega
          · have HKy : Hid (keyI (m - 1) S (i + 1) = keyI (m - 1) S i) := keyI_off hltS (by omega)
            have HJ6 : Hid (OwnK wr wo.heap.size u5 (keyI (m - 1) S (i + 1)) ∧ Below wo.heap.size wo wr) := by
              rw [HKy.out]
              exact HJ.out
            have g3 : (S[i].h : Int) < (m : Int) := by omega
            generalize S[i] = e0 at *
            clear hh
            go_wp2_with fail
            go_roundw
            case rel => exact ⟨i + 1, by omega, by go_num, HJ6⟩
            case measure => simp [intOf]; omega
        · have g2 : decide ((i : Int) < (n : Int)) = false := by simp; omega
          have HKa : Hid (OwnK wr wo.heap.size u5 (keyE (m - 1) S) ∧ Below wo.heap.size wo wr) := by
            have h1 := HJ.out
            rw [heq2, ← HN.out, keyI_all] at h1
            exact h1
          have HM : Hid (m - 1 + 1 = m ∧ m - 1 < 16 ∧ 1 ≤ m ∧ m + 1 ≤ 17) := ⟨by omega, by omega, by omega, by omega⟩
          obtain ⟨pk, ck, hu5, -⟩ := owns_len HKa.out.1
          have HRr : Hid (RdE wr p S ∧ Below w.heap.size w wr ∧ OwnKs wr w.heap.size u3 (lvsE S (min (m - 1) (topE S 16)))) := ⟨HI.out.r.on HKa.out.2, HI.out.b.trans (HKa.out.2.mono HI.out.b.size), HI.out.o.kept HKa.out.2⟩
          have hmx : (m : Int) < 17 := by omega
          have HKb : Hid (OwnK wr w.heap.size u5 (keyE (m - 1) S)) := owns_base HKa.out.1 HI.out.b.size
          clear HJ HI HKa
          subst hu5
          by_cases hnil : keyE (m - 1) S = []
          · have HQ : Hid (RlS w wr p S u3 (m + 1 - 1)) := by
              refine ⟨?_, HRr.out.1, HRr.out.2.1⟩
              have h1 := min_off hnil
              rw [HM.out.1] at h1
              rw [Nat.add_sub_cancel, h1]
              exact HRr.out.2.2
            have hlen : (keyE (m - 1) S).length = 0 := by rw [hnil]; rfl
            rw [hlen]
            clear hlen hnil HKb
            go_wp2_with fail
            go_roundw
            case rel => exact ⟨m + 1, by omega, by omega, by go_num, HQ⟩
            case measure => simp [intOf]; omega
          · obtain ⟨vs, hv1, hv2, hv3⟩ := HRr.out.2.2
            have hn0 : 0 < (keyE (m - 1) S).length := List.length_pos_iff.2 hnil
            have HV : Hid (vs.length = (lvsE S (min (m - 1) (topE S 16))).length ∧ wr.ownsRow w.heap.size 49 1 u3 vs.length vs ∧ (∀ i (h1 : i < vs.length) (h2 : i < (lvsE S (min (m - 1) (topE S 16))).length), OwnK wr w.heap.size vs[i] (lvsE S (min (m - 1) (topE S 16)))[i]) ∧ vs.length ≤ 16) := ⟨hv1, hv2, hv3, by rw [hv1, lvsE_len]; have := HM.out.2.1; omega⟩
            have HMo : Hid (lvsE S (min m (topE S 16)) = lvsE S (min (m - 1) (topE S 16)) ++ [keyE (m - 1) S]) := by
              have h1 := min_on HM.out.2.1 hnil
              rw [HM.out.1] at h1
              exact h1
            obtain ⟨kl, hkl⟩ : ∃ kl, (keyE (m - 1) S).length = kl := ⟨_, rfl⟩
            rw [hkl] at hn0 HKb ⊢
            clear hv1 hv2 hv3 hnil hkl
            go_wp2_with (first | (at_builtin; go_loud (refine wpList_app1 wr rfl (.tmp 35) (.tmp 37) 49 40 _ 1 24 rfl Try.underlying40 info_sls rfl (by decide) w.heap.size _ _ _ (by rfl) HV.out.2.1 [.slice pk kl ck] rfl (by intro u hu; simp only [List.mem_cons, List.not_mem_nil, or_false] at hu; rcases hu with rfl; rfl) _ rfl (by simp) (by have := HV.out.2.2.2; omega) (by have := HV.out.2.2.2; omega) HRr.out.2.1.size ?_); intro v6 w6 h6 h7 h8; refine Hid.out ?_))
            have HQ : Hid (RlS w w6 p S v6 (m + 1 - 1)) := by
              refine ⟨?_, HRr.out.1.low HRl.out h7, HRr.out.2.1.trans h7⟩
              rw [Nat.add_sub_cancel, HMo.out]
              exact OwnKs.app HV.out.1 HV.out.2.1 HV.out.2.2.1 HKb.out h6 h8
            clear h6 h7 h8 HV HKb HRr HMo
            unfold Hid
            go_wp2_with fail
            go_roundw
            case rel => exact ⟨m + 1, by omega, by omega, by go_num, HQ⟩
            case measure => simp [intOf]; omega
    · have g1 : decide ((m : Int) ≤ 16) = false := by simp; omega
      have HZ : Hid (OwnKs wo w.heap.size u3 (lvsE S (topE S 16))) := by
        have h1 := HI.out.o
        rw [heq, Nat.min_eq_right (topE_le S 16)] at h1
        exact h1
      go_wp2_with fail
      go_ret
      exact ⟨_, rfl, HZ.out, HI.out.b⟩

end Go.Proofs.Ytojfohpnfciajaa
