/- The walk of slices.DeleteFunc at ranges. -/
import Derived.Test.YtjigmijennbolaaDoorWDel
namespace Go.Proofs.YtjigmijennbolaaDoor
open Go.RowKit
set_option maxRecDepth 100000

/-- those that are not empty -/
def keepL (L : List Rg) : List Rg := L.filter (fun r => !r.emp)
theorem keepL_snoc (L : List Rg) (j : Nat) (hj : j < L.length) : keepL (L.take (j + 1)) = if L[j].emp then keepL (L.take j) else keepL (L.take j) ++ [L[j]] := by
  unfold keepL
  rw [← List.take_append_getElem hj, List.filter_append]
  cases h : L[j].emp <;> simp [h]
theorem first_take : ∀ (L : List Rg), firstI Rg.emp L < L.length → keepL (L.take (firstI Rg.emp L + 1)) = L.take (firstI Rg.emp L)
  | [], h => by simp at h
  | r :: L, h => by
    unfold firstI at h ⊢
    by_cases hr : r.emp = true
    · rw [if_pos hr]
      simp [keepL, hr]
    · rw [if_neg hr] at h ⊢
      have ih := first_take L (by simpa using h)
      rw [List.take_succ_cons, List.take_succ_cons]
      unfold keepL at ih ⊢
      rw [List.filter_cons, ih]
      simp at hr
      simp [hr]
theorem first_none : ∀ (L : List Rg), firstI Rg.emp L = L.length → keepL L = L
  | [], _ => rfl
  | r :: L, h => by
    unfold firstI at h
    by_cases hr : r.emp = true
    · rw [if_pos hr] at h; simp at h
    · rw [if_neg hr] at h
      have ih := first_none L (by simpa using h)
      unfold keepL at ih ⊢
      rw [List.filter_cons, ih]
      simp at hr
      simp [hr]
theorem OwnR.cap {w : World} {B g cap n : Nat} {L : List Rg} (h : OwnR w B (.slice (some ⟨g, 0, none⟩) n cap) L) : L.length ≤ cap ∧ cap ≤ maxLen ∧ B ≤ g ∧ g < w.heap.size := by
  rcases h.2 with ⟨h1, _⟩ | ⟨g', cap', cur, e, hb, hg, hn1, hm, hs, ht⟩
  · cases h1
  · injection e with e1 e2 e3
    injection e1 with e1
    injection e1 with e1
    subst e1 e3
    exact ⟨hn1, hm, hb, (Array.getElem?_eq_some_iff.1 hg).1⟩

set_option maxHeartbeats 4000000 in
theorem deleteF_any (L : List Rg) (g cap B : Nat) (w : World) (hO : OwnR w B (.slice (some ⟨g, 0, none⟩) L.length cap) L) (hlen : L.length ≤ 3518437208784) :
    Calls Tryd.prog 28 #[.slice (some ⟨g, 0, none⟩) L.length cap, .func (.func 13) #[] #[]] w fun e w' => e = .returned (.slice (some ⟨g, 0, none⟩) (keepL L).length cap) ∧ OwnR w' B (.slice (some ⟨g, 0, none⟩) (keepL L).length cap) (keepL L) ∧ Below B w w' := by
  obtain ⟨hcap, hmx, hBg, hgw⟩ := hO.cap
  have hmx' : cap ≤ 9223372036854775807 := by unfold maxLen at hmx; omega
  obtain ⟨p0, c0', ep, hRow⟩ := hO.row
  injection ep with ep1 _ ep3
  subst ep1 ep3
  have C1 : Hid (Calls _ _ _ _ _) := indexF_any L (some ⟨g, 0, none⟩) cap w hRow hlen
  have HO : Hid (OwnR _ _ _ _) := hO
  have hfl := firstI_le Rg.emp L
  clear hO hRow hmx
  by_cases hall : firstI Rg.emp L = L.length
  · have hk := first_none L hall
    rw [if_pos hall] at C1
    rw [hk]
    clear hk hall hfl
    go_enter Tryd.func28, Tryd.ntmps28
    go_wp2_with fail
    refine C1.out.mono ?_
    rintro e w1 ⟨rfl, hb1⟩
    go_wp2
    go_ret
    exact ⟨rfl, HO.out.kept hb1, hb1.mono (by omega)⟩
  · have HT : Hid (keepL (L.take (firstI Rg.emp L + 1)) = L.take (firstI Rg.emp L)) := first_take L (by omega)
    rw [if_neg hall] at C1
    have hf1 : firstI Rg.emp L < L.length := by omega
    clear hall hfl
    generalize firstI Rg.emp L = f at *
    have hfne : ((f : Int) == -1) = false := by simp
    go_enter Tryd.func28, Tryd.ntmps28
    go_wp2_with fail
    refine C1.out.mono ?_
    rintro e w1 ⟨rfl, hb1⟩
    have HB1 : Hid (Below _ _ _) := hb1
    clear hb1 C1
    go_wp2_with fail
    go_loopw [5, 6] (fun x y wr => ∃ (i j : Nat) (M : List Rg), x = .int .i64 (i : Int) ∧ y = .int .i64 (j : Int) ∧ i < j ∧ j ≤ L.length ∧ M.length = L.length ∧ M.take i = keepL (L.take j) ∧ M.drop j = L.drop j ∧ OwnR wr B (.slice (some ⟨g, 0, none⟩) L.length cap) M ∧ Below B w wr) (fun _ y _ => L.length - (intOf y).toNat)
    case atStart => exact ⟨f, f + 1, L, by go_num, by go_num, by omega, by omega, rfl, HT.out.symm, rfl, HO.out.kept HB1.out, HB1.out.mono (by omega)⟩
    case round =>
      obtain ⟨i, j, M, rfl, rfl, hij, hj, hM, htk, hdr, hown, hbl⟩ := hrel
      have HE : Hid (M.take i = keepL (L.take j) ∧ M.drop j = L.drop j ∧ OwnR wr B (.slice (some ⟨g, 0, none⟩) L.length cap) M ∧ Below B w wr) := ⟨htk, hdr, hown, hbl⟩
      have hgr : g < wr.heap.size := (hown.cap).2.2.2
      clear htk hdr hown hbl
      by_cases hj0 : j = L.length
      · subst hj0
        have hi : i < M.length := by omega
        have hk : M.take i = keepL L := by have h := HE.out.1; rw [List.take_of_length_le (Nat.le_refl L.length)] at h; exact h
        have hkl : (keepL L).length = i := by rw [← hk, List.length_take]; omega
        have hcl : (Builtin.clear_ #[22] 0 #[.slice (some ⟨g, i * 3, none⟩) (L.length - i) (cap - i)]).run Tryd.prog wr = .ok (.tuple #[]) (wr.setCells g (i * 3) (zeroR (L.length - i))) := by
          have h' : wr.ownsRow B 29 3 (.slice (some ⟨g, 0, none⟩) M.length cap) M.length (rcells M) := by
            have h := HE.out.2.2.1
            rw [← hM] at h
            exact h
          refine run_clearR wr 0 g (i * 3) (L.length - i) (cap - i) (by omega) (fun t ht => ?_) (fun t _ => h'.frozenAt _)
          rw [h'.cellAt (i * 3 + t) (by omega), List.getElem?_eq_getElem (by rw [rcells_len]; omega)]
          rfl
        have HF : Hid ((keepL L).length = i ∧ M.take i = keepL L) := ⟨hkl, hk⟩
        clear hk hkl
        go_wp2
        go_ret
        rw [HF.out.1, ← HF.out.2]
        exact ⟨rfl, HE.out.2.2.1.cut hM.symm i (by omega) _, setCells_below hBg _ _ _ _ HE.out.2.2.2⟩
      · have hj1 : j < L.length := by omega
        have hoM : OwnR wr B (.slice (some ⟨g, 0, none⟩) M.length cap) M := by rw [hM]; exact HE.out.2.2.1
        obtain ⟨⟨c0, c1, c2⟩, _⟩ := hoM.at j (by omega)
        obtain ⟨⟨m0, m1, m2⟩, n0, n1, n2⟩ := hoM.at i (by omega)
        have eMj : M[j]'(by omega) = L[j] := by
          have h := congrArg (fun l => l[0]?) HE.out.2.1
          simp only [List.getElem?_drop, Nat.add_zero] at h
          rw [List.getElem?_eq_getElem (by omega), List.getElem?_eq_getElem hj1] at h
          exact Option.some.inj h
        rw [eMj] at c0 c1 c2
        have CE : Hid (∀ w1 : World, Calls Tryd.prog 13 #[.agg #[.string (L[j]).lo, .string (L[j]).hi, .bool (L[j]).op]] w1 fun e w' => e = .returned (.bool (Rg.emp L[j])) ∧ Below w1.heap.size w1 w') := fun w1 => empty_any (L[j]).lo (L[j]).hi (L[j]).op w1
        have hks := keepL_snoc L j hj1
        have HK : Hid (keepL (L.take (j + 1)) = if L[j].emp then keepL (L.take j) else keepL (L.take j) ++ [L[j]]) := hks
        clear hoM hks
        obtain ⟨x, hx⟩ : ∃ x, x = L[j] := ⟨_, rfl⟩
        rw [← hx] at HK CE c0 c1 c2 eMj
        have HX : Hid (x = L[j]) := hx
        clear hx
        cases hem : x.emp
        · rw [hem] at CE HK
          rw [if_neg (by simp)] at HK
          have hBw : B ≤ wr.heap.size := by omega
          have fin : Hid (∀ (o : Obj) (w5 : World), Below (wr.alloc o).heap.size (wr.alloc o) w5 → Below wr.heap.size wr w5 ∧ OwnR w5 B (.slice (some ⟨g, 0, none⟩) M.length cap) M) := by
            intro o w5 hb5
            have hA : Below wr.heap.size wr w5 := ((Below.refl _ _).alloc (Nat.le_refl _) _).trans (hb5.mono (by simp))
            have hoM : OwnR w5 B (.slice (some ⟨g, 0, none⟩) M.length cap) M := by rw [hM]; exact HE.out.2.2.1.kept hA
            exact ⟨hA, hoM⟩
          go_wp2_with (first | (go_at_call 13; refine (CE.out _).mono ?_; rintro e w5 ⟨rfl, hb5⟩; obtain ⟨hx1, hx2⟩ := bcell hb5; obtain ⟨hA, hoM5⟩ := fin.out _ w5 hb5))
          go_roundw
          case rel =>
            refine ⟨i + 1, j + 1, M.set i x, by go_num, by go_num, by omega, by omega, by rw [List.length_set]; exact hM, ?_, ?_, ?_, ?_⟩
            · rw [HK.out, ← HE.out.1, List.take_set, List.take_add_one, List.getElem?_eq_getElem (by omega : i < M.length)]
              rw [List.set_append]
              have hl : (M.take i).length = i := by rw [List.length_take]; omega
              rw [if_neg (by omega), hl, Nat.sub_self]
              rfl
            · rw [List.drop_set_of_lt (by omega), ← List.drop_drop, ← List.drop_drop, HE.out.2.1]
            · have h := hoM5.set i (by omega) x
              rw [hM] at h
              exact h
            · exact ((HE.out.2.2.2.trans (hA.mono hBw)).setCell hBg _).setCell hBg _ |>.setCell hBg _
          case measure => simp [intOf]; omega
        · rw [hem] at CE HK
          rw [if_pos rfl] at HK
          go_wp2_with (first | (go_at_call 13; refine (CE.out _).mono ?_; rintro e w5 ⟨rfl, hb5⟩))
          have hA : Below wr.heap.size wr w5 := ((Below.refl _ _).alloc (Nat.le_refl _) _).trans (hb5.mono (by simp))
          have hBw : B ≤ wr.heap.size := by omega
          go_roundw
          case rel => exact ⟨i, j + 1, M, by go_num, by go_num, by omega, by omega, hM, by rw [HK.out]; exact HE.out.1, by rw [← List.drop_drop, ← List.drop_drop, HE.out.2.1], HE.out.2.2.1.kept hA, HE.out.2.2.2.trans (hA.mono hBw)⟩
          case measure => simp [intOf]; omega
end Go.Proofs.YtjigmijennbolaaDoor
