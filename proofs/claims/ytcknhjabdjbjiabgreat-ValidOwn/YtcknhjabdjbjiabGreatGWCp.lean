/- Points that stand in order, each once: slices.Compact. A list of points in order, each once: inOrder. -/
import Derived.Test.YtcknhjabdjbjiabGreatGWPtM
import Derived.Test.YtcknhjabdjbjiabGreatGWPtF
import Derived.Test.YtcknhjabdjbjiabGreatGWQuiet
namespace Go.Proofs.YtcknhjabdjbjiabGreat
open Go.RowKit
set_option maxRecDepth 100000

/-- the first p of a list, those left out that are as the one ahead of them -/
def ddN (L : List Pt) : Nat → List Pt
  | 0 => []
  | p + 1 => if p = 0 ∨ L.getD p ⟨0, 0, ⟨#[]⟩⟩ ≠ L.getD (p - 1) ⟨0, 0, ⟨#[]⟩⟩ then ddN L p ++ [L.getD p ⟨0, 0, ⟨#[]⟩⟩] else ddN L p
theorem ddN_new (L : List Pt) (p : Nat) (hp : p + 1 < L.length) (h : ¬ L[p + 1] = L[p]) : ddN L (p + 2) = ddN L (p + 1) ++ [L[p + 1]] := by
  have e1 : L.getD (p + 1) ⟨0, 0, ⟨#[]⟩⟩ = L[p + 1] := by simp [List.getD, hp]
  have e2 : L.getD p ⟨0, 0, ⟨#[]⟩⟩ = L[p] := by simp [List.getD, show p < L.length by omega]
  show (if p + 1 = 0 ∨ L.getD (p + 1) ⟨0, 0, ⟨#[]⟩⟩ ≠ L.getD (p + 1 - 1) ⟨0, 0, ⟨#[]⟩⟩ then _ else _) = _
  rw [Nat.add_sub_cancel, e1, e2, if_pos (.inr h)]
theorem ddN_old (L : List Pt) (p : Nat) (hp : p + 1 < L.length) (h : L[p + 1] = L[p]) : ddN L (p + 2) = ddN L (p + 1) := by
  have e1 : L.getD (p + 1) ⟨0, 0, ⟨#[]⟩⟩ = L[p + 1] := by simp [List.getD, hp]
  have e2 : L.getD p ⟨0, 0, ⟨#[]⟩⟩ = L[p] := by simp [List.getD, show p < L.length by omega]
  show (if p + 1 = 0 ∨ L.getD (p + 1) ⟨0, 0, ⟨#[]⟩⟩ ≠ L.getD (p + 1 - 1) ⟨0, 0, ⟨#[]⟩⟩ then _ else _) = _
  rw [Nat.add_sub_cancel, e1, e2, if_neg (by rintro (h1 | h1); exact absurd h1 (by omega); exact h1 h)]
theorem ddN_one (L : List Pt) (hp : 0 < L.length) : ddN L 1 = [L[0]] := by
  show (if 0 = 0 ∨ _ then _ else _) = _
  rw [if_pos (.inl rfl)]
  simp [ddN, List.getD, hp]
theorem ddN_mem (L : List Pt) : ∀ p, p ≤ L.length → ∀ x, x ∈ ddN L p ↔ x ∈ L.take p
  | 0, _, x => by simp [ddN]
  | 1, h, x => by rw [ddN_one L (by omega), take_mem L 0 (by omega)]; simp
  | p + 2, h, x => by
    have ih := ddN_mem L (p + 1) (by omega) x
    rw [take_mem L (p + 1) (by omega)]
    by_cases he : L[p + 1]'(by omega) = L[p]'(by omega)
    · rw [ddN_old L p (by omega) he, ih]
      refine ⟨.inl, fun h => h.elim id (fun e => ?_)⟩
      rw [e, he, take_mem L p (by omega)]
      exact .inr rfl
    · rw [ddN_new L p (by omega) he, List.mem_append, ih, List.mem_singleton]
theorem ddN_ris (L : List Pt) (hU : UpP L) : ∀ p, p ≤ L.length → RisP (ddN L p)
  | 0, _ => List.Pairwise.nil
  | 1, h => by rw [ddN_one L (by omega)]; exact List.pairwise_singleton _ _
  | p + 2, h => by
    have ih := ddN_ris L hU (p + 1) (by omega)
    by_cases he : L[p + 1]'(by omega) = L[p]'(by omega)
    · rw [ddN_old L p (by omega) he]; exact ih
    · rw [ddN_new L p (by omega) he]
      refine List.pairwise_append.2 ⟨ih, List.pairwise_singleton _ _, fun x hx y hy => ?_⟩
      rw [List.mem_singleton] at hy
      subst hy
      rw [ddN_mem L (p + 1) (by omega)] at hx
      have hq : ltP (L[p + 1]'(by omega)) (L[p]'(by omega)) = false := List.pairwise_iff_getElem.1 hU p (p + 1) (by omega) (by omega) (by omega)
      have hs : ltP (L[p]'(by omega)) (L[p + 1]'(by omega)) = true := by
        rcases ltP_tri (L[p]'(by omega)) (L[p + 1]'(by omega)) with h1 | h1 | h1
        · exact h1
        · exact absurd h1.symm he
        · rw [h1] at hq; cases hq
      obtain ⟨i, hi, rfl⟩ := List.getElem_of_mem hx
      rw [List.length_take] at hi
      rw [List.getElem_take]
      by_cases hip : i = p
      · subst hip; exact hs
      · have h3 : ltP (L[p]'(by omega)) (L[i]'(by omega)) = false := List.pairwise_iff_getElem.1 hU i p (by omega) (by omega) (by omega)
        rcases ltP_tri (L[i]'(by omega)) (L[p]'(by omega)) with h4 | h4 | h4
        · exact ltP_trans h4 hs
        · rw [h4]; exact hs
        · rw [h4] at h3; cases h3
theorem ddN_short (L : List Pt) (h : L.length < 2) : ddN L L.length = L := by
  match L, h with
  | [], _ => rfl
  | [x], _ => rfl

set_option maxHeartbeats 8000000 in
theorem compactP_any (L : List Pt) (g cap B : Nat) (w : World) (hO : OwnP w B (.slice (some ⟨g, 0, none⟩) L.length cap) L) (hlen : L.length ≤ 4398046511104) :
    Calls Tryz.prog 78 #[.slice (some ⟨g, 0, none⟩) L.length cap] w fun e w' => e = .returned (.slice (some ⟨g, 0, none⟩) (ddN L L.length).length cap) ∧ OwnP w' B (.slice (some ⟨g, 0, none⟩) (ddN L L.length).length cap) (ddN L L.length) ∧ Below B w w' := by
  obtain ⟨hcap, hmx, hBg, hgw⟩ := hO.cap
  have hmx' : cap ≤ 9223372036854775807 := by unfold maxLen at hmx; omega
  have HO : Hid (OwnP w B (.slice (some ⟨g, 0, none⟩) L.length cap) L) := hO
  have heq := run_eqInP
  have hgd := run_eqGP
  clear hO hmx
  by_cases hl2 : L.length < 2
  · have h9 := ddN_short L hl2
    rw [h9]
    clear h9
    go_enter Tryz.func78, Tryz.ntmps78
    go_wp2_with fail
    go_ret
    exact ⟨rfl, HO.out, Below.refl _ _⟩
  · have hl3 : 2 ≤ L.length := by omega
    have hl2' : ((L.length : Int) < 2) = False := by simp; omega
    clear hl2
    go_enter Tryz.func78, Tryz.ntmps78
    go_wp2_with fail
    go_loopw [3] (fun i wr => ∃ k : Nat, k + 1 ≤ L.length ∧ i = .int .i64 ((k + 1 : Nat) : Int) ∧ Hid (ddN L (k + 1) = L.take (k + 1)) ∧ Hid (Below w.heap.size w wr)) (fun i _ => L.length - (intOf i).toNat)
    case atStart => exact ⟨0, by omega, by go_num, by
      rw [ddN_one L (by omega)]
      match L, hl3 with
      | x :: L, _ => rfl, Below.refl _ _⟩
    case round =>
      obtain ⟨k, hk, rfl, HD, HBl⟩ := hrel
      have HOr : Hid (OwnP wr B (.slice (some ⟨g, 0, none⟩) L.length cap) L) := HO.out.kept HBl.out
      by_cases hk0 : k + 1 = L.length
      · have HE : Hid (ddN L L.length = L) := by
          have h := HD.out
          rw [hk0, List.take_of_length_le (Nat.le_refl _)] at h
          exact h
        have hk0' : ((k : Int) + 1) = (L.length : Int) := by omega
        clear HD
        go_wp2_with fail
        go_ret
        rw [HE.out]
        exact ⟨rfl, HOr.out, HBl.out.mono (by omega)⟩
      · have hk1 : k + 1 < L.length := by omega
        obtain ⟨⟨c0, c1, c2⟩, n0, n1, n2⟩ := HOr.out.at (k + 1) hk1
        obtain ⟨⟨d0, d1, d2⟩, m0, m1, m2⟩ := HOr.out.at k (by omega)
        by_cases hxy : L[k + 1] = L[k]
        · have HD2 : Hid (ddN L (k + 2) = L.take (k + 1)) := by
            refine (show _ = _ from ?_)
            rw [ddN_old L k hk1 hxy, HD.out]
          have hdx : decide (L[k + 1] = L[k]) = true := decide_eq_true hxy
          clear hxy HD
          generalize L[k + 1] = x at *
          generalize L[k] = y at *
          go_wp2_with fail
          go_quiet (fail)
          have HO2 : Hid (OwnP (wr.drewN nq) B (.slice (some ⟨g, 0, none⟩) L.length cap) L ∧ Below B w (wr.drewN nq)) := ⟨HOr.out.kept ⟨rfl, rfl, rfl, Nat.le_refl _, fun _ _ => rfl⟩, Below.mono (B := w.heap.size) ⟨HBl.out.os, HBl.out.tape, HBl.out.output, HBl.out.size, HBl.out.block⟩ (by omega)⟩
          clear HOr HBl c0 c1 c2 n0 n1 n2 d0 d1 d2 m0 m1 m2 hdx
          generalize wr.drewN nq = w2 at *
          have HDk : Hid (ddN L (k + 1 + 0 + 1) = L.take (k + 1)) := HD2.out
          clear HD2
          have hk0p : 1 ≤ k + 1 := by omega
          generalize k + 1 = k0 at *
          go_wp2_with fail
          go_loopw [3, 5] (fun a b wr => ∃ (i q : Nat) (M : List Pt), a = .int .i64 (i : Int) ∧ b = .int .i64 ((q + 1 : Nat) : Int) ∧ i ≤ k0 + q ∧ k0 + q + 1 ≤ L.length ∧ M.length = L.length ∧ Hid (M.take i = ddN L (k0 + q + 1)) ∧ Hid (M.drop i = L.drop i) ∧ Hid (OwnP wr B (.slice (some ⟨g, 0, none⟩) L.length cap) M) ∧ Hid (Below B w wr)) (fun _ b _ => L.length - (intOf b).toNat)
          case atStart => exact ⟨k0, 0, L, by go_num, by go_num, by omega, by omega, rfl, HDk.out.symm, rfl, HO2.out.1, HO2.out.2⟩
          case round =>
            obtain ⟨i, q, M, rfl, rfl, hiq, hq, hM, HT, HDr, HOw, HBw⟩ := hrel
            have hgr : g < wr.heap.size := (HOw.out.cap).2.2.2
            by_cases hq0 : k0 + q + 1 = L.length
            · have HF : Hid ((ddN L L.length).length = i ∧ M.take i = ddN L L.length) := by
                have h := HT.out
                rw [hq0] at h
                exact ⟨by rw [← h, List.length_take]; omega, h⟩
              have hcl : (Builtin.clear_ #[24] 0 #[.slice (some ⟨g, i * 3, none⟩) (L.length - i) (cap - i)]).run Tryz.prog wr = .ok (.tuple #[]) (wr.setCells g (i * 3) (zeroP (L.length - i))) := by
                have h' : wr.ownsRow B 36 3 (.slice (some ⟨g, 0, none⟩) M.length cap) M.length (pcells M) := by
                  have h := HOw.out
                  rw [← hM] at h
                  exact h
                refine run_clearP wr 0 g (i * 3) (L.length - i) (cap - i) (by omega) (fun t ht => ?_) (fun t _ => h'.frozenAt _)
                rw [h'.cellAt (i * 3 + t) (by omega), List.getElem?_eq_getElem (by rw [pcells_len]; omega)]
                rfl
              have hlt : ((q : Int) + 1 < ((L.length - k0 : Nat) : Int)) = False := by simp; omega
              have hil : i ≤ L.length := by omega
              go_wp2_with fail
              go_ret
              rw [HF.out.1, ← HF.out.2]
              exact ⟨rfl, HOw.out.cut hM.symm i (by omega) _, setCells_below hBg _ _ _ _ HBw.out⟩
            · have hq1 : k0 + q + 1 < L.length := by omega
              have hoM : OwnP wr B (.slice (some ⟨g, 0, none⟩) M.length cap) M := by rw [hM]; exact HOw.out
              obtain ⟨⟨c0, c1, c2⟩, _⟩ := hoM.at (k0 + q + 1) (by omega)
              obtain ⟨⟨d0, d1, d2⟩, _⟩ := hoM.at (k0 + q) (by omega)
              obtain ⟨⟨m0, m1, m2⟩, n0, n1, n2⟩ := hoM.at i (by omega)
              have eM : ∀ t (ht : t < L.length), i ≤ t → M[t]'(by omega) = L[t] := by
                intro t ht hit
                have h := congrArg (fun l => l[t - i]?) HDr.out
                simp only [List.getElem?_drop] at h
                rw [show i + (t - i) = t by omega, List.getElem?_eq_getElem (by omega), List.getElem?_eq_getElem ht] at h
                exact Option.some.inj h
              rw [eM (k0 + q + 1) (by omega) (by omega), show (k0 + q + 1) * 3 = k0 * 3 + (q + 1) * 3 by omega] at c0 c1 c2
              rw [eM (k0 + q) (by omega) (by omega), show (k0 + q) * 3 = k0 * 3 + q * 3 by omega] at d0 d1 d2
              have hlt : (q : Int) + 1 < ((L.length - k0 : Nat) : Int) := by omega
              have HNew : Hid (¬ L[k0 + q + 1] = L[k0 + q] → ddN L (k0 + q + 2) = ddN L (k0 + q + 1) ++ [L[k0 + q + 1]]) := fun h => ddN_new L (k0 + q) hq1 h
              have HOld : Hid (L[k0 + q + 1] = L[k0 + q] → ddN L (k0 + q + 2) = ddN L (k0 + q + 1)) := fun h => ddN_old L (k0 + q) hq1 h
              clear eM
              obtain ⟨x, hx⟩ : ∃ x, x = L[k0 + q + 1] := ⟨_, rfl⟩
              obtain ⟨y, hy⟩ : ∃ y, y = L[k0 + q]'(by omega) := ⟨_, rfl⟩
              rw [← hx] at HNew HOld c0 c1 c2
              rw [← hy] at HNew HOld d0 d1 d2
              have HX : Hid (x = L[k0 + q + 1]) := hx
              clear hx hy hoM
              by_cases hxy : x = y
              · have HD3 : Hid (ddN L (k0 + q + 2) = ddN L (k0 + q + 1)) := HOld.out hxy
                have hdx : decide (x = y) = true := decide_eq_true hxy
                clear HNew HOld hxy
                go_wp2_with fail
                go_quiet (fail)
                go_wp2_with fail
                go_roundw
                case rel => exact ⟨i, q + 1, M, by go_num, by go_num, by omega, by omega, hM, by rw [show k0 + (q + 1) + 1 = k0 + q + 2 by omega, HD3.out]; exact HT.out, HDr.out, HOw.out.kept ⟨rfl, rfl, rfl, Nat.le_refl _, fun _ _ => rfl⟩, ⟨HBw.out.os, HBw.out.tape, HBw.out.output, HBw.out.size, HBw.out.block⟩⟩
                case measure => simp [intOf]; omega
              · have HD3 : Hid (ddN L (k0 + q + 2) = ddN L (k0 + q + 1) ++ [x]) := HNew.out hxy
                have hdx : decide (x = y) = false := decide_eq_false hxy
                clear HNew HOld hxy
                go_wp2_with fail
                go_quiet (fail)
                go_wp2_with fail
                go_roundw
                case rel =>
                  refine ⟨i + 1, q + 1, M.set i x, by go_num, by go_num, by omega, by omega, by rw [List.length_set]; exact hM, ?_, ?_, ?_, ?_⟩
                  · refine (show _ = _ from ?_)
                    rw [show k0 + (q + 1) + 1 = k0 + q + 2 by omega, HD3.out, ← HT.out, List.take_set, List.take_add_one, List.getElem?_eq_getElem (by omega : i < M.length)]
                    rw [List.set_append]
                    have hl : (M.take i).length = i := by rw [List.length_take]; omega
                    rw [if_neg (by omega), hl, Nat.sub_self]
                    rfl
                  · refine (show _ = _ from ?_)
                    rw [List.drop_set_of_lt (by omega), ← List.drop_drop, ← List.drop_drop, HDr.out]
                  · have h := (show OwnP (wr.drewN nq) B (.slice (some ⟨g, 0, none⟩) M.length cap) M from by rw [hM]; exact HOw.out.kept ⟨rfl, rfl, rfl, Nat.le_refl _, fun _ _ => rfl⟩).set i (by omega) x
                    rw [hM] at h
                    exact h
                  · have hb9 : Below B w (wr.drewN nq) := ⟨HBw.out.os, HBw.out.tape, HBw.out.output, HBw.out.size, HBw.out.block⟩
                    exact ((hb9.setCell hBg _).setCell hBg _).setCell hBg _
                case measure => simp [intOf]; omega
        · have HD2 : Hid (ddN L (k + 2) = L.take (k + 2)) := by
            refine (show _ = _ from ?_)
            rw [ddN_new L k hk1 hxy, HD.out, List.take_append_getElem hk1]
          have hdx : decide (L[k + 1] = L[k]) = false := decide_eq_false hxy
          clear hxy HD
          generalize L[k + 1] = x at *
          generalize L[k] = y at *
          go_wp2_with fail
          go_quiet (fail)
          go_wp2_with fail
          go_roundw
          case rel => exact ⟨k + 1, by omega, by go_num, HD2.out, ⟨HBl.out.os, HBl.out.tape, HBl.out.output, HBl.out.size, HBl.out.block⟩⟩
          case measure => simp [intOf]; omega

end Go.Proofs.YtcknhjabdjbjiabGreat

namespace Go.Proofs.YtcknhjabdjbjiabGreat
open Go.Shelf Go.RowKit Go.Lib Go.Sort
set_option maxRecDepth 100000

theorem ddN_len (L : List Pt) : ∀ p, (ddN L p).length ≤ p
  | 0 => Nat.le_refl _
  | p + 1 => by
    have ih := ddN_len L p
    unfold ddN
    split
    · simp; omega
    · omega
theorem swP_below [Inhabited Pt] {B : Nat} {w0 w : World} (h : RowKit.Below B w0 w) {g : Nat} (hg : B ≤ g) (hw : g < w.heap.size) (n : Nat) (d : Array Pt) (os : Array Obj) : RowKit.Below B w0 (sortWorldK encP 3 w g 0 n d os) := by
  unfold sortWorldK putRowK
  refine grow_below (below_putRow h hg) os ?_
  simp [putRow, mapBlock, Sort.ahead]
  omega
theorem perm_memP [Inhabited Pt] {d d' : Array Pt} (h : PermIn 0 d.size d d') (r : Pt) : r ∈ d'.toList ↔ r ∈ d.toList := by
  have h1 := h.2.2
  have e1 : (d.extract 0 d.size).toList = d.toList := by simp
  have e2 : (d'.extract 0 d.size).toList = d'.toList := by rw [← h.1]; simp
  rw [e1, e2] at h1
  exact h1.mem_iff
theorem sorted_upP [Inhabited Pt] {d : Array Pt} (h : SortedIn (ltOf cmpP) 0 d.size d) : UpP d.toList := by
  unfold UpP
  rw [List.pairwise_iff_getElem]
  intro i j hi hj hij
  have hi' : i < d.size := by simpa using hi
  have hj' : j < d.size := by simpa using hj
  have h1 := h i j (Nat.zero_le _) hij hj'
  rw [ltOf_cmp] at h1
  have e1 : d[i]! = d.toList[i] := by simp [getElem!_pos, hi']
  have e2 : d[j]! = d.toList[j] := by simp [getElem!_pos, hj']
  rw [e1, e2] at h1
  exact h1
theorem own_sorted [Inhabited Pt] {w : World} {B g n cap : Nat} {d : Array Pt} {L : List Pt} (os : Array Obj) (h : OwnP w B (.slice (some ⟨g, 0, none⟩) L.length cap) L) (hs : d.size = L.length) : OwnP (sortWorldK encP 3 w g 0 n d os) B (.slice (some ⟨g, 0, none⟩) d.toList.length cap) d.toList := by
  rcases h.2 with ⟨h1, _⟩ | ⟨g', cap', cur, e, hb, hg, hn1, hm, hsz, ht⟩
  · cases h1
  · injection e with e1 e2 e3
    injection e1 with e1
    injection e1 with e1
    subst e1 e3
    have hgl : g < w.heap.size := (Array.getElem?_eq_some_iff.1 hg).1
    have hdl : d.toList.length = d.size := by simp
    have hF : (flatK encP 3 d).size = d.size * 3 := size_flatK encP 3 d
    refine ⟨by rw [pcells_len], .inr ⟨g, cap, putCells id 0 (flatK encP 3 d) cur, rfl, hb, ?_, by rw [hdl, hs]; exact hn1, hm, by simp [putCells]; exact hsz, ?_⟩⟩
    · simp only [sortWorldK, grow, putRowK, putRow, mapBlock, Sort.ahead]
      rw [Array.getElem?_append_left (by simpa using hgl), Array.getElem?_modify, if_pos rfl, hg]
      rfl
    · rw [hdl]
      apply List.ext_getElem?
      intro j
      rw [List.getElem?_take]
      split
      · rename_i hj
        have hjc : j < cur.size := by rw [hsz]; omega
        have hjp : j < (pcells d.toList).length := by rw [pcells_len, hdl]; exact hj
        have h3 := pcells_get d.toList j (by rw [hdl]; exact hj)
        have hd : j / 3 < d.size := by omega
        have hg3 := get_flatK encP 3 d j hj
        have e5 : d[j / 3]! = d.toList[j / 3]'(by rw [hdl]; exact hd) := by simp [getElem!_pos, hd]
        rw [h3, Array.getElem?_toList, putCells, Array.getElem?_mapIdx, Array.getElem?_eq_getElem hjc, Option.map_some, if_pos ⟨Nat.zero_le _, by rw [hF]; omega⟩, Nat.sub_zero, hg3, e5]
        have hm3 : j % 3 < 3 := by omega
        have hl3 : (encP (d.toList[j / 3]'(by rw [hdl]; exact hd))).length = 3 := rfl
        have h9 : j % 3 < (encP (d.toList[j / 3]'(by rw [hdl]; exact hd))).length := by rw [hl3]; exact hm3
        rw [List.getElem?_eq_getElem h9]
        exact congrArg some (getElem!_pos (encP (d.toList[j / 3]'(by rw [hdl]; exact hd))) (j % 3) h9)
      · rename_i hj
        rw [List.getElem?_eq_none (by rw [pcells_len, hdl]; omega)]
theorem RisP.up {L : List Pt} (h : RisP L) : UpP L := List.Pairwise.imp (fun h => ltP_asymm h) h
theorem rowP_len {w : World} {p : Option Addr} {L : List Pt} (h : RowP w w.heap.size p L) (hp : p = none) : L = [] := by
  match L, h with
  | [], _ => rfl
  | x :: L, h =>
    obtain ⟨b, o, e, _⟩ := h 0 (by simp)
    rw [hp] at e
    cases e

set_option maxHeartbeats 4000000 in
/-- inOrder of any list -/
theorem inOrder_some (L : List Pt) (a : Addr) (c : Nat) (w : World) (hR : RowP w w.heap.size (some a) L) (hlen : L.length ≤ 4398046511104) (hc : L.length ≤ c) :
    Calls Tryz.prog 60 #[.slice (some a) L.length c] w fun e w' => ∃ (v : Value) (R : List Pt), e = .returned v ∧ OwnP w' w.heap.size v R ∧ RisP R ∧ (∀ x, x ∈ R ↔ x ∈ L) ∧ R.length ≤ L.length ∧ RowKit.Below w.heap.size w w' := by
  haveI : Inhabited Pt := ⟨⟨0, 0, ⟨#[]⟩⟩⟩
  have C1 : Hid (Calls _ _ _ _ _) := cloneP_any L a c w hR hlen hc
  clear hR
  go_enter Tryz.func60, Tryz.ntmps60
  go_wp2_with fail
  refine C1.out.mono ?_
  rintro e w1 ⟨v, rfl, hO, hnn, hb1⟩
  have HB1 : Hid (RowKit.Below _ _ _) := hb1
  have hz1 := hb1.size
  clear hb1 C1
  rcases hO.form with ⟨rfl, rfl⟩ | ⟨g, cap, rfl, hg1, hg2⟩
  · exact absurd rfl hnn
  · clear hnn
    have hs0 : L.toArray.size = L.length := by simp
    have C3 : Hid (∀ x, x = w1 → Calls _ _ _ _ _) := fun x hx => by subst hx; exact sortP_any g 0 cap L.toArray x hO.holds hg2 (by rw [hs0]; omega)
    rw [hs0] at C3
    have HO : Hid (OwnP w1 w.heap.size (.slice (some ⟨g, 0, none⟩) L.length cap) L) := hO
    clear hO
    go_wp2_with fail
    refine (C3.out _ rfl).mono ?_
    rintro e w3 ⟨rfl, d', n, os, hp, hs, rfl⟩
    have hds : d'.size = L.length := by rw [hp.1]; simp
    have hdl : d'.toList.length = L.length := by simp [hds]
    have hO3 := own_sorted (n := n) os HO.out hds
    have hB := swP_below HB1.out hg1 hg2 n d' os
    have hU : UpP d'.toList := sorted_upP (by rw [hds]; simpa using hs)
    have hMm : ∀ r, r ∈ d'.toList ↔ r ∈ L := fun r => by have h := perm_memP (d := L.toArray) (d' := d') (by simpa using hp) r; simpa using h
    clear hp hs C3
    generalize sortWorldK encP 3 w1 g 0 n d' os = w4 at *
    generalize d'.toList = D at *
    have C4 : Hid (Calls _ _ _ _ _) := compactP_any D g cap w.heap.size w4 hO3 (by omega)
    rw [hdl] at C4
    have hrs := ddN_ris D hU D.length (Nat.le_refl _)
    have hmm := ddN_mem D D.length (Nat.le_refl _)
    have hll : (ddN D D.length).length ≤ L.length := by
      have h9 := ddN_len D D.length
      omega
    rw [hdl] at hrs hmm hll
    have FIN : Hid (RisP (ddN D L.length) ∧ (∀ x, x ∈ ddN D L.length ↔ x ∈ L) ∧ (ddN D L.length).length ≤ L.length ∧ RowKit.Below w.heap.size w w4) := ⟨hrs, fun x => by rw [hmm x, ← hdl, List.take_of_length_le (Nat.le_refl _)]; exact hMm x, hll, hB⟩
    clear hrs hmm hll hB hU hMm hO3 hdl hds HO
    go_wp2_with fail
    refine C4.out.mono ?_
    rintro e w5 ⟨rfl, hO5, hb5⟩
    have HO5 : Hid (OwnP _ _ _ _) := hO5
    have HB5 : Hid (RowKit.Below w.heap.size w w5) := FIN.out.2.2.2.trans hb5
    clear hO5 hb5 C4
    go_wp2_with fail
    go_ret
    exact ⟨_, _, rfl, HO5.out, FIN.out.1, FIN.out.2.1, FIN.out.2.2.1, HB5.out⟩

end Go.Proofs.YtcknhjabdjbjiabGreat
