/- The walks of indexes and references. The walk of schema.Check. -/
import Derived.Test.YthbjheiogghjnaaGreatDoorGWCol2
namespace Go.Proofs.YthbjheiogghjnaaGreatDoor
open Go.RowKit
set_option maxRecDepth 100000

set_option maxHeartbeats 4000000 in
theorem checkIx_any (t : Tb) (a : TabP) (i : Nat) (hi : i < t.ix.length) (w : World) (hV : TabV w w.heap.size t a) (hn : t.cs.length ≤ 64) (hlen : t.ix.length ≤ 3518437208784) (hok : ∀ x ∈ t.ix, x.nm.size ≤ 140737488351232 ∧ x.cs.length ≤ 17592186043904) :
    Calls Tryz.prog 25 #[a.val t, .int .i64 (i : Int)] w fun e w' => e = .returned (.int .i64 (ixE t.cs.length t.ix i)) ∧ Below w.heap.size w w' := by
  have HA : Hid (RowX _ _ _ _) := hV.ix
  have hcx := hV.hx
  have hc := hok t.ix[i] (List.getElem_mem hi)
  have HC : Hid (ixE t.cs.length t.ix i = ixE1 t.cs.length (t.ix.take i) t.ix[i]) := ixE_at hi
  have HTW : Hid (∀ j (hj : j < i), (t.ix[j].nm.toList == t.ix[i].nm.toList) = true → twinB ((t.ix.take i).map Ix.nm) t.ix[i].nm = true) := by
    intro j hj h
    refine twin_hit (j := j) (by simp; omega) ?_
    simpa using h
  have HTN : Hid (∀ j (hj : j < i), twinB (((t.ix.take i).map Ix.nm).take (j + 1)) t.ix[i].nm = (twinB (((t.ix.take i).map Ix.nm).take j) t.ix[i].nm || (t.ix[j].nm.toList == t.ix[i].nm.toList))) := by
    intro j hj
    have h := twin_take (L := (t.ix.take i).map Ix.nm) (s := t.ix[i].nm) (j := j) (by simp; omega)
    rw [h]
    simp
  have HTE : Hid (((t.ix.take i).map Ix.nm).take i = (t.ix.take i).map Ix.nm) := (show _ = _ from List.take_of_length_le (by simp; omega))
  obtain ⟨b, o, epx, hbB, a0, ⟨q, cq, a1, hq⟩, a2⟩ := hV.ix i hi
  have EPX : Hid (a.px = some ⟨b, o, none⟩ ∧ True) := ⟨epx, trivial⟩
  have CN : Hid (∀ w1, Calls Tryz.prog 21 #[.string t.ix[i].nm] w1 fun e w' => e = .returned (.bool (nameB t.ix[i].nm.data.toList)) ∧ Below w1.heap.size w1 w') := fun w1 => name_any t.ix[i].nm w1 hc.1
  have CA : Hid (∀ w1, Below w.heap.size w w1 → Calls Tryz.prog 38 #[a.val t, .slice q t.ix[i].cs.length cq] w1 fun e w' => e = .returned (.bool (apartB t.cs.length t.ix[i].cs)) ∧ Below w1.heap.size w1 w') := fun w1 hb => apart_any t a t.ix[i].cs q cq w1 (hq.on hb) hn hc.2
  have HL : Hid (listB t.cs.length t.ix[i].cs = (decide (1 ≤ t.ix[i].cs.length) && apartB t.cs.length t.ix[i].cs)) := rfl
  have hcl := hc.2
  clear hV hok hc hq
  generalize ixE t.cs.length t.ix i = d at *
  obtain ⟨x, hx⟩ : ∃ x, t.ix[i] = x := ⟨_, rfl⟩
  simp only [hx] at a0 a1 a2 CN CA HC HTW HTN HL hcl
  clear hx
  have HBN : Hid (BoxT _ _ _ _) := BoxT.new w t a
  have hb0 : Below w.heap.size w ((w.alloc (.cells #[.string t.nm, .slice a.pc t.cs.length a.cc, .slice a.pk t.key.length a.ck, .slice a.px t.ix.length a.cx, .slice a.pr t.rf.length a.cr] 27)).alloc (.cells #[.string x.nm, .slice q x.cs.length cq, .bool x.un] 44)) := by go_grown
  have HB2 : Hid (BoxT ((w.alloc (.cells #[.string t.nm, .slice a.pc t.cs.length a.cc, .slice a.pk t.key.length a.ck, .slice a.px t.ix.length a.cx, .slice a.pr t.rf.length a.cr] 27)).alloc (.cells #[.string x.nm, .slice q x.cs.length cq, .bool x.un] 44)) w.heap.size t a) := HBN.out.on ((Below.refl _ _).alloc (Nat.le_refl _) _) (by simp)
  unfold TabP.val at *
  unfold ixE1 at HC
  clear HBN
  cases hnm : nameB x.nm.data.toList
  · rw [hnm] at CN HC
    simp only [Bool.false_eq_true, if_false] at HC
    clear hnm
    go_enter Tryz.func25, Tryz.ntmps25
    simp only [epx] at *
    go_wp2_with fail
    refine (CN.out _).mono ?_
    rintro e w5 ⟨rfl, hb5⟩
    go_wp2
    go_ret
    exact ⟨errV HC.out.symm, hb0.trans (hb5.mono hb0.size)⟩
  · rw [hnm] at CN HC
    simp only [if_true] at HC
    clear hnm
    go_enter Tryz.func25, Tryz.ntmps25
    simp only [epx]
    rw [epx] at HA HB2 hb0 CA
    go_wp2_with fail
    refine (CN.out _).mono ?_
    rintro e w5 ⟨rfl, hb5⟩
    have hB5 : BoxT w5 w.heap.size t a := HB2.out.on hb5 (by simp; omega)
    have h05 : Below w.heap.size w w5 := hb0.trans (hb5.mono hb0.size)
    have z0 : w5.cell? ⟨w.heap.size + 1, 0, none⟩ = some (.string x.nm) := (hb5.cell (p := ⟨w.heap.size + 1, 0, none⟩) (by simp)).trans (by simp [go_sem])
    have z1 : w5.cell? ⟨w.heap.size + 1, 1, none⟩ = some (.slice q x.cs.length cq) := (hb5.cell (p := ⟨w.heap.size + 1, 1, none⟩) (by simp)).trans (by simp [go_sem])
    have hz5 : w.heap.size + 2 ≤ w5.heap.size := by have := hb5.size; simpa using this
    have H5 : Hid (BoxT w5 w.heap.size t a ∧ Below w.heap.size w w5 ∧ w5.cell? ⟨w.heap.size + 1, 0, none⟩ = some (.string x.nm) ∧ w5.cell? ⟨w.heap.size + 1, 1, none⟩ = some (.slice q x.cs.length cq)) := ⟨hB5, h05, z0, z1⟩
    obtain ⟨_, e0, e1, e2, e3, e4⟩ := hB5
    clear hb5 h05 CN HB2 hb0
    rw [EPX.out.1] at e3
    go_wp2_with fail
    go_loopw [22] (fun k wr => ∃ j : Nat, j ≤ i ∧ k = .int .i64 (j : Int) ∧ Hid (twinB (((t.ix.take i).map Ix.nm).take j) x.nm = false) ∧ Below (w.heap.size + 2) w5 wr) (fun k _ => i - (intOf k).toNat)
    case atStart => exact ⟨0, Nat.zero_le _, by go_num, (show _ = _ by simp [twinB]), Below.refl _ _⟩
    case round =>
      obtain ⟨j, hj, rfl, htw, hn5⟩ := hrel
      have hBw : BoxT wr w.heap.size t a := H5.out.1.on hn5 (by omega)
      have hbw : Below w.heap.size w wr := H5.out.2.1.trans (hn5.mono (by omega))
      have y0 := (hn5.cell (p := ⟨w.heap.size + 1, 0, none⟩) (by simp)).trans z0
      have y1 := (hn5.cell (p := ⟨w.heap.size + 1, 1, none⟩) (by simp)).trans z1
      have hzw : w.heap.size + 2 ≤ wr.heap.size := by have := hn5.size; omega
      have hlw : w.heap.size + 1 < wr.heap.size := hzw
      by_cases hj0 : j = i
      · subst hj0
        rw [HTE.out] at htw
        rw [htw.out] at HC
        simp only [Bool.false_eq_true, if_false] at HC
        obtain ⟨_, c0, c1, c2, c3, c4⟩ := hBw
        rw [EPX.out.1] at c3
        have CA' := CA.out wr hbw
        have CA'' : Hid (Calls Tryz.prog 38 #[.agg #[.string t.nm, .slice a.pc t.cs.length a.cc, .slice a.pk t.key.length a.ck, .slice (some ⟨b, o, none⟩) t.ix.length a.cx, .slice a.pr t.rf.length a.cr], .slice q x.cs.length cq] wr fun e w' => e = .returned (.bool (apartB t.cs.length x.cs)) ∧ Below wr.heap.size wr w') := CA'
        clear CA CA' HTW HTN HTE HA H5 e0 e1 e2 e3 e4 z0 z1
        rw [HL.out] at HC
        clear HL
        generalize apartB t.cs.length x.cs = ap at *
        by_cases h0 : x.cs.length = 0
        · have hd : Hid (d = 33) := by
            rw [h0] at HC
            exact HC
          clear HC
          go_wp2
          go_ret
          exact ⟨errV hd.out.symm, hbw⟩
        · rw [decide_eq_true (by omega : 1 ≤ x.cs.length), Bool.true_and] at HC
          have h0' : ¬ (x.cs.length : Int) = 0 := by omega
          cases ap
          all_goals
            go_wp2_with fail
            refine CA''.out.mono ?_
            rintro e w6 ⟨rfl, hb6⟩
            go_wp2
            go_ret
            exact ⟨errV HC.out.symm, hbw.trans (hb6.mono hbw.size)⟩
      · have hj1 : j < i := by omega
        obtain ⟨b', o', eb, hbB', x0, ⟨q', cq', x1, _⟩, x2⟩ := HA.out j (by omega)
        injection eb with eb
        injection eb with eb1 eb2
        subst eb1 eb2
        have k : ∀ {o : Nat} {v : Option Value}, w.cell? ⟨b, o, none⟩ = v → wr.cell? ⟨b, o, none⟩ = v := fun {o v} hc => (hbw.cell (p := ⟨b, o, none⟩) hbB).trans hc
        have u0 := k x0
        have u1 := k x1
        have u2 := k x2
        have hhit := HTW.out j hj1
        have hnext := HTN.out j hj1
        rw [htw.out, Bool.false_or] at hnext
        clear k x0 x1 x2 hBw
        generalize t.ix[j] = u at *
        obtain ⟨un, ul, uu⟩ := u
        dsimp only at u0 u1 u2 hhit hnext
        cases hsame : (un.toList == x.nm.toList)
        · rw [hsame] at hnext
          have HX : Hid (_ = _) := hnext
          clear hhit hnext
          go_wp2_with fail
          go_roundw
          case rel => exact ⟨j + 1, hj1, by go_num, HX, (hn5.alloc hzw _)⟩
          case measure => simp [intOf]; omega
        · have h31 := hhit hsame
          rw [h31] at HC
          simp only [if_true] at HC
          clear hhit hnext h31
          go_wp2
          go_ret
          exact ⟨errV HC.out.symm, hbw.alloc (by omega) _⟩

set_option maxHeartbeats 4000000 in
theorem checkRf_any (t : Tb) (a : TabP) (r : Rf) (q : Option Addr) (cq : Nat) (w : World) (hq : RowI w w.heap.size q r.cs) (hn : t.cs.length ≤ 64) (hok : r.tb.size ≤ 140737488351232 ∧ r.cs.length ≤ 17592186043904) :
    Calls Tryz.prog 26 #[a.val t, .agg #[.slice q r.cs.length cq, .string r.tb]] w fun e w' => e = .returned (.int .i64 (rfE1 t.cs.length r)) ∧ Below w.heap.size w w' := by
  have CN : Hid (∀ w1, Calls Tryz.prog 21 #[.string r.tb] w1 fun e w' => e = .returned (.bool (nameB r.tb.data.toList)) ∧ Below w1.heap.size w1 w') := fun w1 => name_any r.tb w1 hok.1
  have CA : Hid (∀ w1, Below w.heap.size w w1 → Calls Tryz.prog 38 #[a.val t, .slice q r.cs.length cq] w1 fun e w' => e = .returned (.bool (apartB t.cs.length r.cs)) ∧ Below w1.heap.size w1 w') := fun w1 hb => apart_any t a r.cs q cq w1 (hq.on hb) hn hok.2
  have HC : Hid (rfE1 t.cs.length r = if nameB r.tb.data.toList then (if decide (1 ≤ r.cs.length) && apartB t.cs.length r.cs then 0 else 33) else 30) := rfl
  have hcl := hok.2
  clear hq hok
  generalize rfE1 t.cs.length r = d at *
  have HBN : Hid (BoxT _ _ _ _) := BoxT.new w t a
  have hb0 : Below w.heap.size w ((w.alloc (.cells #[.string t.nm, .slice a.pc t.cs.length a.cc, .slice a.pk t.key.length a.ck, .slice a.px t.ix.length a.cx, .slice a.pr t.rf.length a.cr] 27)).alloc (.cells #[.slice q r.cs.length cq, .string r.tb] 47)) := by go_grown
  have HB2 : Hid (BoxT ((w.alloc (.cells #[.string t.nm, .slice a.pc t.cs.length a.cc, .slice a.pk t.key.length a.ck, .slice a.px t.ix.length a.cx, .slice a.pr t.rf.length a.cr] 27)).alloc (.cells #[.slice q r.cs.length cq, .string r.tb] 47)) w.heap.size t a) := HBN.out.on ((Below.refl _ _).alloc (Nat.le_refl _) _) (by simp)
  unfold TabP.val at *
  clear HBN
  generalize apartB t.cs.length r.cs = ap at *
  cases hnm : nameB r.tb.data.toList
  · rw [hnm] at CN HC
    simp only [Bool.false_eq_true, if_false] at HC
    clear hnm
    go_enter Tryz.func26, Tryz.ntmps26
    go_wp2_with fail
    refine (CN.out _).mono ?_
    rintro e w5 ⟨rfl, hb5⟩
    go_wp2
    go_ret
    exact ⟨errV HC.out.symm, hb0.trans (hb5.mono hb0.size)⟩
  · rw [hnm] at CN HC
    simp only [if_true] at HC
    clear hnm
    go_enter Tryz.func26, Tryz.ntmps26
    go_wp2_with fail
    refine (CN.out _).mono ?_
    rintro e w5 ⟨rfl, hb5⟩
    have hB5 : BoxT w5 w.heap.size t a := HB2.out.on hb5 (by simp; omega)
    have h05 : Below w.heap.size w w5 := hb0.trans (hb5.mono hb0.size)
    have z1 : w5.cell? ⟨w.heap.size + 1, 0, none⟩ = some (.slice q r.cs.length cq) := (hb5.cell (p := ⟨w.heap.size + 1, 0, none⟩) (by simp)).trans (by simp [go_sem])
    obtain ⟨_, e0, e1, e2, e3, e4⟩ := hB5
    have CA' : Hid (Calls _ _ _ _ _) := CA.out w5 h05
    clear hb5 CN HB2 hb0 CA
    by_cases h0 : r.cs.length = 0
    · have hd : Hid (d = 33) := by
        rw [h0] at HC
        exact HC
      clear HC
      go_wp2
      go_ret
      exact ⟨errV hd.out.symm, h05⟩
    · rw [decide_eq_true (by omega : 1 ≤ r.cs.length), Bool.true_and] at HC
      have h0' : ¬ (r.cs.length : Int) = 0 := by omega
      cases ap
      all_goals
        go_wp2_with fail
        refine CA'.out.mono ?_
        rintro e w6 ⟨rfl, hb6⟩
        go_wp2
        go_ret
        exact ⟨errV HC.out.symm, h05.trans (hb6.mono h05.size)⟩

end Go.Proofs.YthbjheiogghjnaaGreatDoor

namespace Go.Proofs.YthbjheiogghjnaaGreatDoor
open Go.RowKit
set_option maxRecDepth 100000

theorem firstE_take {f : Nat → Int} {j : Nat} (h : firstE f j = 0) : ∀ i, i < j → f i = 0 := by
  induction j with
  | zero => intro i hi; omega
  | succ j ih =>
    unfold firstE at h
    split at h
    · rename_i h0
      intro i hi
      by_cases e : i = j
      · rw [e]; exact h
      · exact ih h0 i (by omega)
    · rename_i h0; exact absurd h h0
theorem firstE_succ {f : Nat → Int} {j : Nat} (h : firstE f j = 0) : firstE f (j + 1) = f j := by
  show (if firstE f j = 0 then f j else firstE f j) = f j
  rw [if_pos h]
theorem firstE_end {f : Nat → Int} {j n : Nat} (h : firstE f j = 0) (hj : j < n) (hf : ¬ f j = 0) : firstE f n = f j := firstE_hit (firstE_take h) hf hj

set_option maxHeartbeats 4000000 in
theorem check_anyT (t : Tb) (a : TabP) (w : World) (hV : TabV w w.heap.size t a) (hok : t.ok) (hE : Env w) :
    Calls Tryz.prog 8 #[a.val t] w fun e w' => e = .returned (.int .i64 (checkS t)) ∧ Below w.heap.size w w' := by
  have CN : Hid (∀ w1, Calls Tryz.prog 21 #[.string t.nm] w1 fun e w' => e = .returned (.bool (nameB t.nm.data.toList)) ∧ Below w1.heap.size w1 w') := fun w1 => name_any t.nm w1 hok.nm
  have CC : Hid (∀ w1, Calls Tryz.prog 22 #[a.val t] w1 fun e w' => e = .returned (.bool (countsB t)) ∧ Below w1.heap.size w1 w') := fun w1 => counts_any t a w1 (by have := hok.cs; omega) (by have := hok.ix; omega) (by have := hok.rf; omega)
  have CL : Hid (∀ w1 (j : Nat), j < t.cs.length → Below w.heap.size w w1 → Calls Tryz.prog 23 #[.slice a.pc t.cs.length a.cc, .int .i64 (j : Int)] w1 fun e w' => e = .returned (.int .i64 (colE t.cs j)) ∧ Below w1.heap.size w1 w') := fun w1 j hj hb => checkCol_any t.cs a.pc a.cc j hj w1 (hV.on hb).cs hok.cs hV.hc hok.cn (hE.on hb)
  have CK : Hid (t.cs.length ≤ 64 → ∀ w1, Below w.heap.size w w1 → Calls Tryz.prog 24 #[a.val t] w1 fun e w' => e = .returned (.bool (keyB t)) ∧ Below w1.heap.size w1 w') := fun hn w1 hb => key_any t a w1 (hV.on hb) hn hok.key
  have CX : Hid (t.cs.length ≤ 64 → ∀ w1 (j : Nat), j < t.ix.length → Below w.heap.size w w1 → Calls Tryz.prog 25 #[a.val t, .int .i64 (j : Int)] w1 fun e w' => e = .returned (.int .i64 (ixE t.cs.length t.ix j)) ∧ Below w1.heap.size w1 w') := fun hn w1 j hj hb => checkIx_any t a j hj w1 (hV.on hb) hn hok.ix hok.xn
  have CF : Hid (t.cs.length ≤ 64 → ∀ w1 (r : Rf) (q : Option Addr) (cq : Nat), r ∈ t.rf → RowI w1 w1.heap.size q r.cs → Calls Tryz.prog 26 #[a.val t, .agg #[.slice q r.cs.length cq, .string r.tb]] w1 fun e w' => e = .returned (.int .i64 (rfE1 t.cs.length r)) ∧ Below w1.heap.size w1 w') := fun hn w1 r q cq hr h => checkRf_any t a r q cq w1 h hn (hok.rn r hr)
  have HS : Hid (checkS t = if nameB t.nm.data.toList then (if countsB t then (if firstE (colE t.cs) t.cs.length = 0 then (if keyB t then (if firstE (ixE t.cs.length t.ix) t.ix.length = 0 then firstE (rfE t.cs.length t.rf) t.rf.length else firstE (ixE t.cs.length t.ix) t.ix.length) else 33) else firstE (colE t.cs) t.cs.length) else 2) else 30) := rfl
  have HF : Hid (RowF w w.heap.size a.pr t.rf) := hV.rf
  have hl1 := hok.cs
  have hl2 := hok.ix
  have hl3 := hok.rf
  have HCN : Hid (countsB t = true → t.cs.length ≤ 64) := by
    intro h
    unfold countsB at h
    simp only [Bool.and_eq_true, decide_eq_true_eq] at h
    omega
  have HB : Hid (BoxT _ _ _ _) := BoxT.new w t a
  have hb0 : Below w.heap.size w (w.alloc (.cells #[.string t.nm, .slice a.pc t.cs.length a.cc, .slice a.pk t.key.length a.ck, .slice a.px t.ix.length a.cx, .slice a.pr t.rf.length a.cr] 27)) := by go_grown
  clear hV hok hE
  generalize checkS t = d at *
  unfold TabP.val at *
  cases hnm : nameB t.nm.data.toList
  · rw [hnm] at CN HS
    simp only [Bool.false_eq_true, if_false] at HS
    clear hnm
    go_enter Tryz.func8, Tryz.ntmps8
    go_wp2_with fail
    refine (CN.out _).mono ?_
    rintro e w5 ⟨rfl, hb5⟩
    go_wp2
    go_ret
    exact ⟨errV HS.out.symm, hb0.trans (hb5.mono hb0.size)⟩
  · rw [hnm] at CN HS
    simp only [if_true] at HS
    clear hnm
    go_enter Tryz.func8, Tryz.ntmps8
    go_wp2_with fail
    refine (CN.out _).mono ?_
    rintro e w1 ⟨rfl, hb1⟩
    have hB1 : BoxT w1 w.heap.size t a := HB.out.on hb1 (by simp)
    have h01 : Below w.heap.size w w1 := hb0.trans (hb1.mono hb0.size)
    have H1 : Hid (BoxT w1 w.heap.size t a ∧ Below w.heap.size w w1) := ⟨hB1, h01⟩
    obtain ⟨hz1, e0, e1, e2, e3, e4⟩ := hB1
    clear hb1 h01 CN HB hb0
    cases hct : countsB t
    · rw [hct] at CC HS
      simp only [Bool.false_eq_true, if_false] at HS
      clear hct
      go_wp2_with fail
      refine (CC.out _).mono ?_
      rintro e w5 ⟨rfl, hb5⟩
      go_wp2
      go_ret
      exact ⟨errV HS.out.symm, H1.out.2.trans (hb5.mono H1.out.2.size)⟩
    · have h64 := HCN.out hct
      rw [hct] at CC HS
      simp only [if_true] at HS
      clear hct HCN
      have CK' : Hid (∀ w1, Below w.heap.size w w1 → _) := CK.out h64
      have CX' : Hid (∀ w1 (j : Nat), j < t.ix.length → Below w.heap.size w w1 → _) := CX.out h64
      have CF' : Hid (∀ w1 (r : Rf) (q : Option Addr) (cq : Nat), r ∈ t.rf → RowI w1 w1.heap.size q r.cs → _) := CF.out h64
      clear CK CX CF
      go_wp2_with fail
      refine (CC.out _).mono ?_
      rintro e w2 ⟨rfl, hb2⟩
      have hB2 : BoxT w2 w.heap.size t a := H1.out.1.on hb2 hz1
      have h02 : Below w.heap.size w w2 := H1.out.2.trans (hb2.mono H1.out.2.size)
      have H2 : Hid (BoxT w2 w.heap.size t a ∧ Below w.heap.size w w2) := ⟨hB2, h02⟩
      clear e0 e1 e2 e3 e4 hz1
      obtain ⟨hz2, e0, e1, e2, e3, e4⟩ := hB2
      clear hb2 h02 CC H1
      go_wp2_with fail
      go_loopw [20] (fun k wr => ∃ j : Nat, j ≤ t.cs.length ∧ k = .int .i64 (j : Int) ∧ Hid (firstE (colE t.cs) j = 0) ∧ Hid (Below (w.heap.size + 1) w2 wr)) (fun k _ => t.cs.length - (intOf k).toNat)
      case atStart => exact ⟨0, Nat.zero_le _, by go_num, rfl, Below.refl _ _⟩
      case round =>
        obtain ⟨j, hj, rfl, hfz, hn⟩ := hrel
        have hB3 : BoxT wr w.heap.size t a := H2.out.1.on hn.out (by omega)
        have h03 : Below w.heap.size w wr := H2.out.2.trans (hn.out.mono (by omega))
        by_cases hj0 : j = t.cs.length
        · subst hj0
          rw [hfz.out] at HS
          simp only [if_true] at HS
          clear e0 e1 e2 e3 e4 hz2 H2 hn hfz CL
          generalize wr = w3 at *
          have H3 : Hid (BoxT w3 w.heap.size t a ∧ Below w.heap.size w w3) := ⟨hB3, h03⟩
          obtain ⟨hz3, e0, e1, e2, e3, e4⟩ := hB3
          have CK3 : Hid (Calls _ _ _ _ _) := CK'.out w3 h03
          clear CK' h03
          have CK3' : Hid (Calls Tryz.prog 24 #[.agg #[.string t.nm, .slice a.pc t.cs.length a.cc, .slice a.pk t.key.length a.ck, .slice a.px t.ix.length a.cx, .slice a.pr t.rf.length a.cr]] w3 fun e w' => e = .returned (.bool (keyB t)) ∧ Below w3.heap.size w3 w') := CK3
          clear CK3
          cases hky : keyB t
          · rw [hky] at CK3' HS
            simp only [Bool.false_eq_true, if_false] at HS
            go_wp2_with fail
            refine CK3'.out.mono ?_
            rintro e w4 ⟨rfl, hb4⟩
            go_wp2
            go_ret
            exact ⟨errV HS.out.symm, H3.out.2.trans (hb4.mono H3.out.2.size)⟩
          · rw [hky] at CK3' HS
            simp only [if_true] at HS
            clear hky
            go_wp2_with fail
            refine CK3'.out.mono ?_
            rintro e w4 ⟨rfl, hb4⟩
            have hB4 : BoxT w4 w.heap.size t a := H3.out.1.on hb4 hz3
            have h04 : Below w.heap.size w w4 := H3.out.2.trans (hb4.mono H3.out.2.size)
            have H4 : Hid (BoxT w4 w.heap.size t a ∧ Below w.heap.size w w4) := ⟨hB4, h04⟩
            clear e0 e1 e2 e3 e4 hz3
            obtain ⟨hz4, e0, e1, e2, e3, e4⟩ := hB4
            clear hb4 h04 CK3' H3
            go_wp2_with fail
            go_loopw [37] (fun k wr => ∃ j : Nat, j ≤ t.ix.length ∧ k = .int .i64 (j : Int) ∧ Hid (firstE (ixE t.cs.length t.ix) j = 0) ∧ Hid (Below (w.heap.size + 1) w4 wr)) (fun k _ => t.ix.length - (intOf k).toNat)
            case atStart => exact ⟨0, Nat.zero_le _, by go_num, rfl, Below.refl _ _⟩
            case round =>
              obtain ⟨j, hj, rfl, hfz, hn⟩ := hrel
              have hB5 : BoxT wr w.heap.size t a := H4.out.1.on hn.out (by omega)
              have h05 : Below w.heap.size w wr := H4.out.2.trans (hn.out.mono (by omega))
              by_cases hj0 : j = t.ix.length
              · subst hj0
                rw [hfz.out] at HS
                simp only [if_true] at HS
                clear e0 e1 e2 e3 e4 hz4 H4 hn hfz CX'
                generalize wr = w5 at *
                have H5 : Hid (BoxT w5 w.heap.size t a ∧ Below w.heap.size w w5) := ⟨hB5, h05⟩
                obtain ⟨hz5, e0, e1, e2, e3, e4⟩ := hB5
                clear h05
                go_wp2_with fail
                go_loopw [50] (fun k wr => ∃ j : Nat, j ≤ t.rf.length ∧ k = .int .i64 (j : Int) ∧ Hid (firstE (rfE t.cs.length t.rf) j = 0) ∧ Hid (Below (w.heap.size + 1) w5 wr)) (fun k _ => t.rf.length - (intOf k).toNat)
                case atStart => exact ⟨0, Nat.zero_le _, by go_num, rfl, Below.refl _ _⟩
                case round =>
                  obtain ⟨j, hj, rfl, hfz, hn⟩ := hrel
                  have hB6 : BoxT wr w.heap.size t a := H5.out.1.on hn.out (by omega)
                  have h06 : Below w.heap.size w wr := H5.out.2.trans (hn.out.mono (by omega))
                  by_cases hj0 : j = t.rf.length
                  · subst hj0
                    rw [hfz.out] at HS
                    go_wp2
                    go_ret
                    exact ⟨errV HS.out.symm, h06⟩
                  · have hj1 : j < t.rf.length := by omega
                    obtain ⟨b, o, epr, hbB, ⟨q, cq, x0, hq⟩, x1⟩ := HF.out j hj1
                    have y0 := (h06.cell (p := ⟨b, o + j * 2, none⟩) hbB).trans x0
                    have y1 := (h06.cell (p := ⟨b, o + j * 2 + 1, none⟩) hbB).trans x1
                    have C6 : Hid (∀ w1, Below w.heap.size w w1 → Calls Tryz.prog 26 #[.agg #[.string t.nm, .slice a.pc t.cs.length a.cc, .slice a.pk t.key.length a.ck, .slice a.px t.ix.length a.cx, .slice a.pr t.rf.length a.cr], .agg #[.slice q (t.rf[j]).cs.length cq, .string (t.rf[j]).tb]] w1 fun e w' => e = .returned (.int .i64 (rfE t.cs.length t.rf j)) ∧ Below w1.heap.size w1 w') := fun w1 hb => by
                      have h := CF'.out w1 t.rf[j] q cq (List.getElem_mem hj1) (hq.on hb)
                      rw [← rfE_at hj1] at h
                      exact h
                    have HX' : Hid (firstE (rfE t.cs.length t.rf) (j + 1) = rfE t.cs.length t.rf j) := firstE_succ hfz.out
                    have HY : Hid (¬ rfE t.cs.length t.rf j = 0 → firstE (rfE t.cs.length t.rf) t.rf.length = rfE t.cs.length t.rf j) := fun h => firstE_end hfz.out hj1 h
                    clear CF' e0 e1 e2 e3 e4 x0 x1 hq HF
                    obtain ⟨hz6, e0, e1, e2, e3, e4⟩ := hB6
                    rw [epr] at e4
                    rw [epr] at C6
                    generalize rfE t.cs.length t.rf j = ce at *
                    generalize (t.rf[j]).cs.length = rl at *
                    generalize (t.rf[j]).tb = rt at *
                    simp only [epr]
                    have hb7 : Below w.heap.size w (wr.alloc (.cells #[.slice q rl cq, .string rt] 47)) := h06.alloc h06.size _
                    by_cases hce : ce = 0
                    · subst hce
                      go_wp2_with fail
                      refine (C6.out _ hb7).mono ?_
                      rintro e w8 ⟨rfl, hb8⟩
                      go_wp2_with fail
                      go_roundw
                      case rel => exact ⟨j + 1, hj1, by go_num, HX', (hn.out.alloc (by omega) _).trans (hb8.mono (by simp; omega))⟩
                      case measure => simp [intOf]; omega
                    · rw [HY.out hce] at HS
                      go_wp2_with fail
                      refine (C6.out _ hb7).mono ?_
                      rintro e w8 ⟨rfl, hb8⟩
                      go_wp2
                      go_ret
                      exact ⟨errV HS.out.symm, hb7.trans (hb8.mono hb7.size)⟩
              · have hj1 : j < t.ix.length := by omega
                have C5 : Hid (Calls Tryz.prog 25 #[.agg #[.string t.nm, .slice a.pc t.cs.length a.cc, .slice a.pk t.key.length a.ck, .slice a.px t.ix.length a.cx, .slice a.pr t.rf.length a.cr], .int .i64 (j : Int)] wr fun e w' => e = .returned (.int .i64 (ixE t.cs.length t.ix j)) ∧ Below wr.heap.size wr w') := CX'.out wr j hj1 h05
                have HX' : Hid (firstE (ixE t.cs.length t.ix) (j + 1) = ixE t.cs.length t.ix j) := firstE_succ hfz.out
                have HY : Hid (¬ ixE t.cs.length t.ix j = 0 → firstE (ixE t.cs.length t.ix) t.ix.length = ixE t.cs.length t.ix j) := fun h => firstE_end hfz.out hj1 h
                clear CX' e0 e1 e2 e3 e4
                obtain ⟨hz5, e0, e1, e2, e3, e4⟩ := hB5
                generalize ixE t.cs.length t.ix j = ce at *
                by_cases hce : ce = 0
                · subst hce
                  go_wp2_with fail
                  refine C5.out.mono ?_
                  rintro e w6 ⟨rfl, hb6⟩
                  go_wp2_with fail
                  go_roundw
                  case rel => exact ⟨j + 1, hj1, by go_num, HX', hn.out.trans (hb6.mono (by omega))⟩
                  case measure => simp [intOf]; omega
                · rw [HY.out hce, if_neg hce] at HS
                  go_wp2_with fail
                  refine C5.out.mono ?_
                  rintro e w6 ⟨rfl, hb6⟩
                  go_wp2
                  go_ret
                  exact ⟨errV HS.out.symm, h05.trans (hb6.mono h05.size)⟩
        · have hj1 : j < t.cs.length := by omega
          have C3 : Hid (Calls _ _ _ _ _) := CL.out wr j hj1 h03
          have HX := firstE_succ hfz.out
          have HY : Hid (¬ colE t.cs j = 0 → firstE (colE t.cs) t.cs.length = colE t.cs j) := fun h => firstE_end hfz.out hj1 h
          have HX' : Hid (firstE (colE t.cs) (j + 1) = colE t.cs j) := HX
          clear HX CL e0 e1 e2 e3 e4
          obtain ⟨hz3, e0, e1, e2, e3, e4⟩ := hB3
          generalize colE t.cs j = ce at *
          by_cases hce : ce = 0
          · subst hce
            go_wp2_with fail
            refine C3.out.mono ?_
            rintro e w5 ⟨rfl, hb5⟩
            go_wp2_with fail
            go_roundw
            case rel => exact ⟨j + 1, hj1, by go_num, HX', hn.out.trans (hb5.mono (by omega))⟩
            case measure => simp [intOf]; omega
          · rw [HY.out hce, if_neg hce] at HS
            go_wp2_with fail
            refine C3.out.mono ?_
            rintro e w5 ⟨rfl, hb5⟩
            go_wp2
            go_ret
            exact ⟨errV HS.out.symm, h03.trans (hb5.mono h03.size)⟩

end Go.Proofs.YthbjheiogghjnaaGreatDoor
