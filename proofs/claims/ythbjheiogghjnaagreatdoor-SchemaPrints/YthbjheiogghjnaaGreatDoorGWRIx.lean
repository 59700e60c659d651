/- The walk of the document's indexes. The walk of the document's Check. -/
import Derived.Test.YthbjheiogghjnaaGreatDoorGWRSome
import Derived.Test.YthbjheiogghjnaaGreatDoorGWQuiet
namespace Go.Proofs.YthbjheiogghjnaaGreatDoor
open Go.RowKit
set_option maxRecDepth 100000

set_option maxHeartbeats 8000000 in
theorem rixs_any (t : Tb) (a : TabP) (w : World) (hV : TabV w w.heap.size t a) (hok : t.ok) (hn : t.cs.length ≤ 64) :
    Calls Tryz.prog 34 #[a.val t] w fun e w' => e = .returned (.int .i64 (firstE (ixE t.cs.length t.ix) t.ix.length)) ∧ Below w.heap.size w w' := by
  have HA : Hid (RowX _ _ _ _) := hV.ix
  have HOK : Hid (∀ x ∈ t.ix, x.nm.size ≤ 140737488351232 ∧ x.cs.length ≤ 17592186043904) := hok.xn
  have hlen := hok.ix
  have CS : Hid (∀ (w1 : World) (l : List Int) (q : Option Addr) (cq : Nat), RowI w1 w1.heap.size q l → l.length ≤ 17592186043904 → Calls Tryz.prog 33 #[a.val t, .slice q l.length cq] w1 fun e w' => e = .returned (.bool (listB t.cs.length l)) ∧ Below w1.heap.size w1 w') := fun w1 l q cq h1 h2 => rsome_any t a l q cq w1 h1 hn h2
  have HB : Hid (BoxT _ _ _ _) := BoxT.new w t a
  have hb0 : Below w.heap.size w (w.alloc (.cells #[.string t.nm, .slice a.pc t.cs.length a.cc, .slice a.pk t.key.length a.ck, .slice a.px t.ix.length a.cx, .slice a.pr t.rf.length a.cr] 27)) := by go_grown
  clear hV hok
  unfold TabP.val at *
  go_enter Tryz.func34, Tryz.ntmps34
  go_wp2_with fail
  generalize hw1 : w.alloc (.cells #[.string t.nm, .slice a.pc t.cs.length a.cc, .slice a.pk t.key.length a.ck, .slice a.px t.ix.length a.cx, .slice a.pr t.rf.length a.cr] 27) = w1 at *
  have hz1 := HB.out.hg
  clear hw1
  go_loopw [3] (fun i wr => ∃ j : Nat, j ≤ t.ix.length ∧ i = .int .i64 (j : Int) ∧ Hid (firstE (ixE t.cs.length t.ix) j = 0) ∧ Hid (Below w1.heap.size w1 wr)) (fun i _ => t.ix.length - (intOf i).toNat)
  case atStart => exact ⟨0, Nat.zero_le _, by go_num, rfl, Below.refl _ _⟩
  case round =>
    obtain ⟨i, hi, rfl, hfz, hn1⟩ := hrel
    have hbw : Below w.heap.size w wr := hb0.trans (hn1.out.mono hb0.size)
    have hB2 : BoxT wr w.heap.size t a := HB.out.on hn1.out hz1
    by_cases hi0 : i = t.ix.length
    · subst hi0
      obtain ⟨hz2, e0, e1, e2, e3, e4⟩ := hB2
      go_wp2
      go_ret
      exact ⟨errV hfz.out.symm, hbw⟩
    · have hi1 : i < t.ix.length := by omega
      obtain ⟨b, o, epx, hbB, a0, ⟨q, cq, a1, hq⟩, a2⟩ := HA.out i hi1
      have y0 := (hbw.cell (p := ⟨b, _, none⟩) hbB).trans a0
      have y1 := (hbw.cell (p := ⟨b, _, none⟩) hbB).trans a1
      have y2 := (hbw.cell (p := ⟨b, _, none⟩) hbB).trans a2
      have hc := HOK.out t.ix[i] (List.getElem_mem hi1)
      have HC : Hid (ixE t.cs.length t.ix i = ixE1 t.cs.length (t.ix.take i) t.ix[i]) := ixE_at hi1
      have HX' : Hid (firstE (ixE t.cs.length t.ix) (i + 1) = ixE t.cs.length t.ix i) := firstE_succ hfz.out
      have HY : Hid (¬ ixE t.cs.length t.ix i = 0 → firstE (ixE t.cs.length t.ix) t.ix.length = ixE t.cs.length t.ix i) := fun h => firstE_end hfz.out hi1 h
      have HTW : Hid (∀ j (hj : j < i), (t.ix[j].nm.toList == t.ix[i].nm.toList) = true → twinB ((t.ix.take i).map Ix.nm) t.ix[i].nm = true) := by
        intro j hj h
        refine twin_hit (j := j) (by simp; omega) ?_
        simpa using h
      have HTN : Hid (∀ j (hj : j < i), twinB (((t.ix.take i).map Ix.nm).take (j + 1)) t.ix[i].nm = (twinB (((t.ix.take i).map Ix.nm).take j) t.ix[i].nm || (t.ix[j].nm.toList == t.ix[i].nm.toList))) := by
        intro j hj
        have h := twin_take (L := (t.ix.take i).map Ix.nm) (s := t.ix[i].nm) (j := j) (by simp; omega)
        rw [h]
        simp
      have HTE : Hid (((t.ix.take i).map Ix.nm).take i = (t.ix.take i).map Ix.nm) := (show _ = _ from List.take_of_length_le (by simp; omega))
      have CN : Hid (∀ w1, Calls Tryz.prog 31 #[.string t.ix[i].nm] w1 fun e w' => e = .returned (.bool (nameB t.ix[i].nm.data.toList)) ∧ Below w1.heap.size w1 w') := fun w1 => rname_any t.ix[i].nm w1 hc.1
      have CA : Hid (∀ w1, Below w.heap.size w w1 → Calls Tryz.prog 33 #[.agg #[.string t.nm, .slice a.pc t.cs.length a.cc, .slice a.pk t.key.length a.ck, .slice a.px t.ix.length a.cx, .slice a.pr t.rf.length a.cr], .slice q t.ix[i].cs.length cq] w1 fun e w' => e = .returned (.bool (listB t.cs.length t.ix[i].cs)) ∧ Below w1.heap.size w1 w') := fun w1 hb => CS.out w1 t.ix[i].cs q cq (hq.on hb) hc.2
      clear a0 a1 a2 hc hfz hq CS
      obtain ⟨x, hx⟩ : ∃ x, t.ix[i] = x := ⟨_, rfl⟩
      simp only [hx] at y0 y1 y2 CN CA HC HTW HTN
      clear hx
      have hbx : Below w.heap.size w (wr.alloc (.cells #[.string x.nm, .slice q x.cs.length cq, .bool x.un] 44)) := hbw.alloc hbw.size _
      have hnx : Hid (Below w1.heap.size w1 (wr.alloc (.cells #[.string x.nm, .slice q x.cs.length cq, .bool x.un] 44))) := hn1.out.alloc hn1.out.size _
      generalize ixE t.cs.length t.ix i = ce at *
      unfold ixE1 at HC
      have hlw : w.heap.size < wr.heap.size := hB2.hg
      obtain ⟨hz2, e0, e1, e2, e3, e4⟩ := hB2
      rw [epx] at e3
      have EPX : Hid (a.px = some ⟨b, o, none⟩ ∧ True) := ⟨epx, trivial⟩
      clear epx
      cases hnm : nameB x.nm.data.toList
      · rw [hnm] at CN HC
        simp only [Bool.false_eq_true, if_false] at HC
        have hd : Hid (firstE (ixE t.cs.length t.ix) t.ix.length = 30) := by
          have h := HY.out (by rw [HC.out]; decide)
          rw [HC.out] at h; exact h
        clear hnm HX' HY
        go_wp2_with fail
        refine (CN.out _).mono ?_
        rintro e w5 ⟨rfl, hb5⟩
        go_wp2
        go_ret
        exact ⟨errV hd.out.symm, hbx.trans (hb5.mono hbx.size)⟩
      · rw [hnm] at CN HC
        simp only [if_true] at HC
        clear hnm
        go_wp2_with fail
        refine (CN.out _).mono ?_
        rintro e w5 ⟨rfl, hb5⟩
        have z0 : w5.cell? ⟨wr.heap.size, 0, none⟩ = some (.string x.nm) := (hb5.cell (p := ⟨wr.heap.size, 0, none⟩) (by simp)).trans (by simp [go_sem])
        have z1 : w5.cell? ⟨wr.heap.size, 1, none⟩ = some (.slice q x.cs.length cq) := (hb5.cell (p := ⟨wr.heap.size, 1, none⟩) (by simp)).trans (by simp [go_sem])
        have h05 : Below w.heap.size w w5 := hbx.trans (hb5.mono hbx.size)
        have h15 : Hid (Below w1.heap.size w1 w5) := hnx.out.trans (hb5.mono hnx.out.size)
        have hz5 : wr.heap.size + 1 ≤ w5.heap.size := by have := hb5.size; simpa using this
        have H5 : Hid (Below w.heap.size w w5) := h05
        have HT5 : Hid (BoxT w5 w.heap.size t a) := HB.out.on h15.out hz1
        clear hb5 CN e0 e1 e2 e3 e4 y0 y1 y2
        generalize wr = w3 at *
        go_wp2_with fail
        go_loopw [5] (fun k wr => ∃ j : Nat, j ≤ i ∧ k = .int .i64 (j : Int) ∧ Hid (twinB (((t.ix.take i).map Ix.nm).take j) x.nm = false) ∧ Hid (Below w5.heap.size w5 wr)) (fun k _ => i - (intOf k).toNat)
        case atStart => exact ⟨0, Nat.zero_le _, by go_num, (show _ = _ by simp [twinB]), Below.refl _ _⟩
        case round =>
          obtain ⟨j, hj, rfl, htw, hn5⟩ := hrel
          have c0 := (hn5.out.cell (p := ⟨w3.heap.size, 0, none⟩) hz5).trans z0
          have c1 := (hn5.out.cell (p := ⟨w3.heap.size, 1, none⟩) hz5).trans z1
          have hTw : BoxT wr w.heap.size t a := HT5.out.on hn5.out (by omega)
          have hb6 : Below w.heap.size w wr := H5.out.trans (hn5.out.mono h05.size)
          have h16 : Hid (Below w1.heap.size w1 wr) := h15.out.trans (hn5.out.mono h15.out.size)
          obtain ⟨hzt, e0, e1, e2, e3, e4⟩ := hTw
          by_cases hj0 : j = i
          · subst hj0
            rw [HTE.out] at htw
            rw [htw.out] at HC
            simp only [Bool.false_eq_true, if_false] at HC
            have CA' : Hid (Calls Tryz.prog 33 #[.agg #[.string t.nm, .slice a.pc t.cs.length a.cc, .slice a.pk t.key.length a.ck, .slice a.px t.ix.length a.cx, .slice a.pr t.rf.length a.cr], .slice q x.cs.length cq] wr fun e w' => e = .returned (.bool (listB t.cs.length x.cs)) ∧ Below wr.heap.size wr w') := CA.out wr hb6
            clear CA HTW HTN HTE HA HOK EPX
            generalize listB t.cs.length x.cs = lb at *
            cases lb
            · simp only [Bool.false_eq_true, if_false] at HC
              have hd : Hid (firstE (ixE t.cs.length t.ix) t.ix.length = 33) := by
                have h := HY.out (by rw [HC.out]; decide)
                rw [HC.out] at h; exact h
              clear HX' HY
              go_wp2_with fail
              refine CA'.out.mono ?_
              rintro e w7 ⟨rfl, hb7⟩
              go_wp2
              go_ret
              exact ⟨errV hd.out.symm, hb6.trans (hb7.mono hb6.size)⟩
            · simp only [if_true] at HC
              rw [HC.out] at HX'
              clear HY
              go_wp2_with fail
              refine CA'.out.mono ?_
              rintro e w7 ⟨rfl, hb7⟩
              go_wp2_with fail
              go_roundw
              case rel => exact ⟨j + 1, hi1, by go_num, HX', h16.out.trans (hb7.mono h16.out.size)⟩
              case measure => simp [intOf]; omega
          · have hj1 : j < i := by omega
            rw [EPX.out.1] at e3
            obtain ⟨b', o', eb, _, x0, _⟩ := HA.out j (by omega)
            rw [EPX.out.1] at eb
            injection eb with eb
            injection eb with eb1 eb2
            subst eb1 eb2
            have y0 := (hb6.cell (p := ⟨b, o + j * 3, none⟩) hbB).trans x0
            have hhit := HTW.out j hj1
            have hnext := HTN.out j hj1
            rw [htw.out, Bool.false_or] at hnext
            have j0 : (j : Int) < (t.ix.length : Int) := by omega
            generalize t.ix[j].nm = un at *
            cases hsame : (un.toList == x.nm.toList)
            · rw [hsame] at hnext
              have HX : Hid (_ = _) := hnext
              clear hhit hnext
              go_wp2_with fail
              go_quiet (fail)
              go_wp2_with fail
              go_roundw
              case rel => exact ⟨j + 1, hj1, by go_num, HX, hn5.out.trans ((below_drewN _ _).mono hn5.out.size)⟩
              case measure => simp [intOf]; omega
            · have h31 := hhit hsame
              rw [h31] at HC
              simp only [if_true] at HC
              have hd : Hid (firstE (ixE t.cs.length t.ix) t.ix.length = 31) := by
                have h := HY.out (by rw [HC.out]; decide)
                rw [HC.out] at h; exact h
              clear hhit hnext h31 HX' HY
              go_wp2_with fail
              go_quiet (fail)
              go_wp2
              go_ret
              exact ⟨errV hd.out.symm, hb6.trans ((below_drewN _ _).mono hb6.size)⟩

end Go.Proofs.YthbjheiogghjnaaGreatDoor

namespace Go.Proofs.YthbjheiogghjnaaGreatDoor
open Go.RowKit
set_option maxRecDepth 100000

set_option maxHeartbeats 8000000 in
theorem rcheck_anyT (t : Tb) (a : TabP) (w : World) (hV : TabV w w.heap.size t a) (hok : t.ok) (hE : Env w) :
    Calls Tryz.prog 14 #[a.val t] w fun e w' => e = .returned (.int .i64 (checkS t)) ∧ Below w.heap.size w w' := by
  have CN : Hid (∀ (s : ByteArray) w1, s.size ≤ 140737488351232 → Calls Tryz.prog 31 #[.string s] w1 fun e w' => e = .returned (.bool (nameB s.data.toList)) ∧ Below w1.heap.size w1 w') := fun s w1 h => rname_any s w1 h
  have hnml := hok.nm
  have CC : Hid (∀ w1, Below w.heap.size w w1 → Calls Tryz.prog 32 #[a.val t] w1 fun e w' => e = .returned (.int .i64 (firstE (colE t.cs) t.cs.length)) ∧ Below w1.heap.size w1 w') := fun w1 hb => rcols_any t a w1 (hV.on hb) hok (hE.on hb)
  have CX : Hid (t.cs.length ≤ 64 → ∀ w1, Below w.heap.size w w1 → Calls Tryz.prog 34 #[a.val t] w1 fun e w' => e = .returned (.int .i64 (firstE (ixE t.cs.length t.ix) t.ix.length)) ∧ Below w1.heap.size w1 w') := fun hn w1 hb => rixs_any t a w1 (hV.on hb) hok hn
  have CS : Hid (t.cs.length ≤ 64 → ∀ (w1 : World) (l : List Int) (q : Option Addr) (cq : Nat), RowI w1 w1.heap.size q l → l.length ≤ 17592186043904 → Calls Tryz.prog 33 #[a.val t, .slice q l.length cq] w1 fun e w' => e = .returned (.bool (listB t.cs.length l)) ∧ Below w1.heap.size w1 w') := fun hn w1 l q cq h1 h2 => rsome_any t a l q cq w1 h1 hn h2
  have HS : Hid (checkS t = if nameB t.nm.data.toList then (if countsB t then (if firstE (colE t.cs) t.cs.length = 0 then (if keyB t then (if firstE (ixE t.cs.length t.ix) t.ix.length = 0 then firstE (rfE t.cs.length t.rf) t.rf.length else firstE (ixE t.cs.length t.ix) t.ix.length) else 33) else firstE (colE t.cs) t.cs.length) else 2) else 30) := rfl
  have HV : Hid (TabV w w.heap.size t a) := hV
  have HOK : Hid t.ok := hok
  have hl1 := hok.cs
  have hl2 := hok.ix
  have hl3 := hok.rf
  have hl4 := hok.key
  have HCN : Hid (countsB t = (decide (1 ≤ t.cs.length) && decide (t.cs.length ≤ 64) && decide (t.ix.length ≤ 16) && decide (t.rf.length ≤ 16))) := rfl
  have HKY : Hid (keyB t = (listB t.cs.length t.key && t.key.all (firmB t.cs))) := rfl
  have HB : Hid (BoxT _ _ _ _) := BoxT.new w t a
  have hb0 : Below w.heap.size w (w.alloc (.cells #[.string t.nm, .slice a.pc t.cs.length a.cc, .slice a.pk t.key.length a.ck, .slice a.px t.ix.length a.cx, .slice a.pr t.rf.length a.cr] 27)) := by go_grown
  clear hV hok hE
  generalize checkS t = d at *
  unfold TabP.val at *
  cases hnm : nameB t.nm.data.toList
  · have CN' := fun w1 => CN.out t.nm w1 hnml
    rw [hnm] at CN' HS
    simp only [Bool.false_eq_true, if_false] at HS
    have CN2 : Hid (∀ w1, Calls Tryz.prog 31 #[.string t.nm] w1 fun e w' => e = .returned (.bool false) ∧ Below w1.heap.size w1 w') := CN'
    clear hnm CN'
    go_enter Tryz.func14, Tryz.ntmps14
    go_wp2_with fail
    refine (CN2.out _).mono ?_
    rintro e w5 ⟨rfl, hb5⟩
    go_wp2
    go_ret
    exact ⟨errV HS.out.symm, hb0.trans (hb5.mono hb0.size)⟩
  · have CN' := fun w1 => CN.out t.nm w1 hnml
    rw [hnm] at CN' HS
    simp only [if_true] at HS
    have CN2 : Hid (∀ w1, Calls Tryz.prog 31 #[.string t.nm] w1 fun e w' => e = .returned (.bool true) ∧ Below w1.heap.size w1 w') := CN'
    clear hnm CN'
    go_enter Tryz.func14, Tryz.ntmps14
    go_wp2_with fail
    refine (CN2.out _).mono ?_
    rintro e w1 ⟨rfl, hb1⟩
    have hB1 : BoxT w1 w.heap.size t a := HB.out.on hb1 (by simp)
    have h01 : Below w.heap.size w w1 := hb0.trans (hb1.mono hb0.size)
    have H1 : Hid (BoxT w1 w.heap.size t a ∧ Below w.heap.size w w1) := ⟨hB1, h01⟩
    obtain ⟨hz1, e0, e1, e2, e3, e4⟩ := hB1
    clear hb1 CN2 HB hb0
    rcases (by omega : t.cs.length < 1 ∨ 64 < t.cs.length ∨ (1 ≤ t.cs.length ∧ t.cs.length ≤ 64)) with hq | hq | ⟨hq1, hq2⟩
    · have hd : Hid (d = 2) := by
        have e : countsB t = false := by rw [HCN.out, Bool.eq_false_iff]; simp; omega
        rw [e] at HS; exact HS
      clear HS
      go_wp2
      go_ret
      exact ⟨errV hd.out.symm, h01⟩
    · have hd : Hid (d = 2) := by
        have e : countsB t = false := by rw [HCN.out, Bool.eq_false_iff]; simp; omega
        rw [e] at HS; exact HS
      clear HS
      go_wp2
      go_ret
      exact ⟨errV hd.out.symm, h01⟩
    rcases (by omega : 16 < t.ix.length ∨ t.ix.length ≤ 16) with hq3 | hq3
    · have hd : Hid (d = 2) := by
        have e : countsB t = false := by rw [HCN.out, Bool.eq_false_iff]; simp; omega
        rw [e] at HS; exact HS
      clear HS
      go_wp2
      go_ret
      exact ⟨errV hd.out.symm, h01⟩
    rcases (by omega : 16 < t.rf.length ∨ t.rf.length ≤ 16) with hq4 | hq4
    · have hd : Hid (d = 2) := by
        have e : countsB t = false := by rw [HCN.out, Bool.eq_false_iff]; simp; omega
        rw [e] at HS; exact HS
      clear HS
      go_wp2
      go_ret
      exact ⟨errV hd.out.symm, h01⟩
    have hct : countsB t = true := by rw [HCN.out]; simp; omega
    rw [hct] at HS
    simp only [if_true] at HS
    have CC1 : Hid (Calls Tryz.prog 32 #[.agg #[.string t.nm, .slice a.pc t.cs.length a.cc, .slice a.pk t.key.length a.ck, .slice a.px t.ix.length a.cx, .slice a.pr t.rf.length a.cr]] w1 fun e w' => e = .returned (.int .i64 (firstE (colE t.cs) t.cs.length)) ∧ Below w1.heap.size w1 w') := CC.out w1 h01
    have CX' : Hid (∀ w1, Below w.heap.size w w1 → Calls Tryz.prog 34 #[.agg #[.string t.nm, .slice a.pc t.cs.length a.cc, .slice a.pk t.key.length a.ck, .slice a.px t.ix.length a.cx, .slice a.pr t.rf.length a.cr]] w1 fun e w' => e = .returned (.int .i64 (firstE (ixE t.cs.length t.ix) t.ix.length)) ∧ Below w1.heap.size w1 w') := CX.out hq2
    have CS' : Hid (∀ (w1 : World) (l : List Int) (q : Option Addr) (cq : Nat), RowI w1 w1.heap.size q l → l.length ≤ 17592186043904 → Calls Tryz.prog 33 #[.agg #[.string t.nm, .slice a.pc t.cs.length a.cc, .slice a.pk t.key.length a.ck, .slice a.px t.ix.length a.cx, .slice a.pr t.rf.length a.cr], .slice q l.length cq] w1 fun e w' => e = .returned (.bool (listB t.cs.length l)) ∧ Below w1.heap.size w1 w') := CS.out hq2
    clear CC CX CS hct HCN h01
    generalize firstE (colE t.cs) t.cs.length = ce at *
    by_cases hce : ce = 0
    · subst hce
      simp only [if_true] at HS
      go_wp2_with fail
      refine CC1.out.mono ?_
      rintro e w2 ⟨rfl, hb2⟩
      have hB2 : BoxT w2 w.heap.size t a := H1.out.1.on hb2 hz1
      have h02 : Below w.heap.size w w2 := H1.out.2.trans (hb2.mono H1.out.2.size)
      have H2 : Hid (BoxT w2 w.heap.size t a ∧ Below w.heap.size w w2) := ⟨hB2, h02⟩
      clear e0 e1 e2 e3 e4 hz1
      obtain ⟨hz2, e0, e1, e2, e3, e4⟩ := hB2
      have CK : Hid (Calls Tryz.prog 33 #[.agg #[.string t.nm, .slice a.pc t.cs.length a.cc, .slice a.pk t.key.length a.ck, .slice a.px t.ix.length a.cx, .slice a.pr t.rf.length a.cr], .slice a.pk t.key.length a.ck] w2 fun e w' => e = .returned (.bool (listB t.cs.length t.key)) ∧ Below w2.heap.size w2 w') := CS'.out w2 t.key a.pk a.ck (HV.out.key.on h02) hl4
      have HIN : Hid (listB t.cs.length t.key = true → ∀ j (hj : j < t.key.length), 0 ≤ t.key[j] ∧ t.key[j] < t.cs.length) := by
        intro h j hj
        unfold listB apartB at h
        simp only [Bool.and_eq_true, List.all_eq_true, decide_eq_true_eq] at h
        exact h.2.1 _ (List.getElem_mem hj)
      clear hb2 h02 H1 CC1
      cases hlk : listB t.cs.length t.key
      · have hd : Hid (d = 33) := by
          rw [HKY.out, hlk, Bool.false_and] at HS
          exact HS
        rw [hlk] at CK
        clear HS hlk
        go_wp2_with fail
        refine CK.out.mono ?_
        rintro e w3 ⟨rfl, hb3⟩
        go_wp2
        go_ret
        exact ⟨errV hd.out.symm, H2.out.2.trans (hb3.mono H2.out.2.size)⟩
      · have HIN' : Hid (∀ j (hj : j < t.key.length), 0 ≤ t.key[j] ∧ t.key[j] < t.cs.length) := HIN.out hlk
        rw [HKY.out, hlk, Bool.true_and] at HS
        rw [hlk] at CK
        clear hlk HIN HKY
        go_wp2_with fail
        refine CK.out.mono ?_
        rintro e w3 ⟨rfl, hb3⟩
        have hB3 : BoxT w3 w.heap.size t a := H2.out.1.on hb3 hz2
        have h03 : Below w.heap.size w w3 := H2.out.2.trans (hb3.mono H2.out.2.size)
        have H3 : Hid (BoxT w3 w.heap.size t a ∧ Below w.heap.size w w3) := ⟨hB3, h03⟩
        have hz3 := hB3.hg
        clear e0 e1 e2 e3 e4 hz2 hb3 h03 H2 CK hB3
        have HAT : Hid (∀ j (hj : j < t.key.length), (t.key.take j).all (firmB t.cs) = true → (t.key.take (j + 1)).all (firmB t.cs) = firmB t.cs t.key[j]) := fun j hj h => all_takeA hj h
        have HAN : Hid (∀ j (hj : j < t.key.length), firmB t.cs t.key[j] = false → t.key.all (firmB t.cs) = false) := fun j hj h => all_hit hj h
        have HAE : Hid ((t.key.take t.key.length).all (firmB t.cs) = t.key.all (firmB t.cs)) := (show _ = _ by rw [List.take_length])
        go_wp2_with fail
        go_loopw [4] (fun k wr => ∃ j : Nat, j ≤ t.key.length ∧ k = .int .i64 (j : Int) ∧ Hid ((t.key.take j).all (firmB t.cs) = true) ∧ Hid (Below w3.heap.size w3 wr)) (fun k _ => t.key.length - (intOf k).toNat)
        case atStart => exact ⟨0, Nat.zero_le _, by go_num, (show _ = _ by simp), Below.refl _ _⟩
        case round =>
          obtain ⟨j, hj, rfl, hall, hn⟩ := hrel
          have hB4 : BoxT wr w.heap.size t a := H3.out.1.on hn.out hz3
          have h04 : Below w.heap.size w wr := H3.out.2.trans (hn.out.mono H3.out.2.size)
          have H4 : Hid (BoxT wr w.heap.size t a ∧ Below w.heap.size w wr) := ⟨hB4, h04⟩
          obtain ⟨hz4, e0, e1, e2, e3, e4⟩ := hB4
          by_cases hj0 : j = t.key.length
          · subst hj0
            rw [← HAE.out, hall.out] at HS
            simp only [if_true] at HS
            have CX4 : Hid (Calls Tryz.prog 34 #[.agg #[.string t.nm, .slice a.pc t.cs.length a.cc, .slice a.pk t.key.length a.ck, .slice a.px t.ix.length a.cx, .slice a.pr t.rf.length a.cr]] wr fun e w' => e = .returned (.int .i64 (firstE (ixE t.cs.length t.ix) t.ix.length)) ∧ Below wr.heap.size wr w') := CX'.out wr h04
            clear HAT HAN HAE HIN' H3 hn hall h04 CX' hz3
            generalize wr = w4 at *
            generalize firstE (ixE t.cs.length t.ix) t.ix.length = xe at *
            by_cases hxe : xe = 0
            · subst hxe
              simp only [if_true] at HS
              go_wp2_with fail
              refine CX4.out.mono ?_
              rintro e w5 ⟨rfl, hb5⟩
              have hB5 : BoxT w5 w.heap.size t a := H4.out.1.on hb5 hz4
              have h05 : Below w.heap.size w w5 := H4.out.2.trans (hb5.mono H4.out.2.size)
              have H5 : Hid (BoxT w5 w.heap.size t a ∧ Below w.heap.size w w5) := ⟨hB5, h05⟩
              have hz5 := hB5.hg
              clear e0 e1 e2 e3 e4 hz4 hb5 h05 H4 CX4 hB5
              go_wp2_with fail
              go_loopw [6] (fun k wr => ∃ j : Nat, j ≤ t.rf.length ∧ k = .int .i64 (j : Int) ∧ Hid (firstE (rfE t.cs.length t.rf) j = 0) ∧ Hid (Below w5.heap.size w5 wr)) (fun k _ => t.rf.length - (intOf k).toNat)
              case atStart => exact ⟨0, Nat.zero_le _, by go_num, rfl, Below.refl _ _⟩
              case round =>
                obtain ⟨j, hj, rfl, hfz, hn⟩ := hrel
                have hB6 : BoxT wr w.heap.size t a := H5.out.1.on hn.out hz5
                have h06 : Below w.heap.size w wr := H5.out.2.trans (hn.out.mono H5.out.2.size)
                have H6 : Hid (BoxT wr w.heap.size t a) := hB6
                obtain ⟨hz6, e0, e1, e2, e3, e4⟩ := hB6
                by_cases hj0 : j = t.rf.length
                · subst hj0
                  rw [hfz.out] at HS
                  go_wp2
                  go_ret
                  exact ⟨errV HS.out.symm, h06⟩
                · have hj1 : j < t.rf.length := by omega
                  obtain ⟨b, o, epr, hbB, ⟨q, cq, x0, hq⟩, x1⟩ := HV.out.rf j hj1
                  have y0 := (h06.cell (p := ⟨b, o + j * 2, none⟩) hbB).trans x0
                  have y1 := (h06.cell (p := ⟨b, o + j * 2 + 1, none⟩) hbB).trans x1
                  have hrn := HOK.out.rn t.rf[j] (List.getElem_mem hj1)
                  have CN6 : Hid (∀ w1, Calls Tryz.prog 31 #[.string t.rf[j].tb] w1 fun e w' => e = .returned (.bool (nameB t.rf[j].tb.data.toList)) ∧ Below w1.heap.size w1 w') := fun w1 => CN.out _ w1 hrn.1
                  have CS6 : Hid (∀ w1, Below w.heap.size w w1 → Calls Tryz.prog 33 #[.agg #[.string t.nm, .slice a.pc t.cs.length a.cc, .slice a.pk t.key.length a.ck, .slice a.px t.ix.length a.cx, .slice a.pr t.rf.length a.cr], .slice q t.rf[j].cs.length cq] w1 fun e w' => e = .returned (.bool (listB t.cs.length t.rf[j].cs)) ∧ Below w1.heap.size w1 w') := fun w1 hb => CS'.out w1 _ q cq (hq.on hb) hrn.2
                  have HC : Hid (rfE t.cs.length t.rf j = if nameB t.rf[j].tb.data.toList then (if listB t.cs.length t.rf[j].cs then 0 else 33) else 30) := (show _ = _ by rw [rfE_at hj1]; rfl)
                  have HX' : Hid (firstE (rfE t.cs.length t.rf) (j + 1) = rfE t.cs.length t.rf j) := firstE_succ hfz.out
                  have HY : Hid (¬ rfE t.cs.length t.rf j = 0 → firstE (rfE t.cs.length t.rf) t.rf.length = rfE t.cs.length t.rf j) := fun h => firstE_end hfz.out hj1 h
                  clear x0 x1 hq hrn CN CS'
                  rw [epr] at e4
                  have EPR : Hid (a.pr = some ⟨b, o, none⟩ ∧ True) := ⟨epr, trivial⟩
                  clear epr
                  generalize rfE t.cs.length t.rf j = ce at *
                  generalize listB t.cs.length t.rf[j].cs = lb at *
                  generalize t.rf[j].cs.length = rl at *
                  cases hnb : nameB t.rf[j].tb.data.toList
                  · rw [hnb] at CN6 HC
                    simp only [Bool.false_eq_true, if_false] at HC
                    have hd : Hid (d = 30) := by
                      have h := HY.out (by rw [HC.out]; decide)
                      rw [h, HC.out] at HS; exact HS
                    clear hnb HX' HY HS
                    generalize t.rf[j].tb = tb at *
                    go_wp2_with fail
                    refine (CN6.out _).mono ?_
                    rintro e w7 ⟨rfl, hb7⟩
                    go_wp2
                    go_ret
                    exact ⟨errV hd.out.symm, h06.trans (hb7.mono h06.size)⟩
                  · rw [hnb] at CN6 HC
                    simp only [if_true] at HC
                    clear hnb
                    generalize t.rf[j].tb = tb at *
                    go_wp2_with fail
                    refine (CN6.out _).mono ?_
                    rintro e w7 ⟨rfl, hb7⟩
                    have h07 : Below w.heap.size w w7 := h06.trans (hb7.mono h06.size)
                    obtain ⟨hz7, f0, f1, f2, f3, f4⟩ := H6.out.on hb7 hz6
                    have g0 : ∀ p : InB w7, p.w'.cell? ⟨w.heap.size, 0, none⟩ = some (.string t.nm) := InB.cell f0 hz7
                    have g1 : ∀ p : InB w7, p.w'.cell? ⟨w.heap.size, 1, none⟩ = some (.slice a.pc t.cs.length a.cc) := InB.cell f1 hz7
                    have g2 : ∀ p : InB w7, p.w'.cell? ⟨w.heap.size, 2, none⟩ = some (.slice a.pk t.key.length a.ck) := InB.cell f2 hz7
                    have g3 : ∀ p : InB w7, p.w'.cell? ⟨w.heap.size, 3, none⟩ = some (.slice a.px t.ix.length a.cx) := InB.cell f3 hz7
                    have g4 : ∀ p : InB w7, p.w'.cell? ⟨w.heap.size, 4, none⟩ = some (.slice (some ⟨b, o, none⟩) t.rf.length a.cr) := by rw [EPR.out.1] at f4; exact InB.cell f4 hz7
                    have hb7b : b < w7.heap.size := Nat.lt_of_lt_of_le hbB h07.size
                    have g5 : ∀ p : InB w7, p.w'.cell? ⟨b, o + j * 2, none⟩ = some (.slice q rl cq) := InB.cell ((hb7.cell (p := ⟨b, _, none⟩) (Nat.lt_of_lt_of_le hbB h06.size)).trans y0) hb7b
                    have ne7 := inB_ne w7
                    have j1 : (j : Int) < (t.rf.length : Int) := by omega
                    rw [EPR.out.1] at CS6
                    have HCS : Hid (∀ p : InB w7, Below w.heap.size w p.w') := fun p => h07.trans (p.h.mono h07.size)
                    clear f0 f1 f2 f3 f4 e0 e1 e2 e3 e4 y0 y1 CN6
                    cases lb
                    · simp only [Bool.false_eq_true, if_false] at HC
                      have hd : Hid (d = 33) := by
                        have h := HY.out (by rw [HC.out]; decide)
                        rw [h, HC.out] at HS; exact HS
                      clear HX' HY HS
                      go_wp2_with fail
                      refine wp_region_inB (by kernel_rfl) (by kernel_rfl) ?_
                      repeat (go_big_quiet_step ((go_at_call 33; exact Calls.inB (CS6.out _ (HCS.out _)))))
                      refine wpQuiet_nil ?_
                      rintro _ ⟨⟨w8, hb8⟩, rfl⟩
                      go_wp2
                      go_ret
                      exact ⟨errV hd.out.symm, h07.trans (hb8.mono h07.size)⟩
                    · simp only [if_true] at HC
                      rw [HC.out] at HX'
                      clear HY
                      go_wp2_with fail
                      refine wp_region_inB (by kernel_rfl) (by kernel_rfl) ?_
                      repeat (go_big_quiet_step ((go_at_call 33; exact Calls.inB (CS6.out _ (HCS.out _)))))
                      refine wpQuiet_nil ?_
                      rintro _ ⟨⟨w8, hb8⟩, rfl⟩
                      go_wp2_with fail
                      go_roundw
                      case rel => exact ⟨j + 1, hj1, by go_num, HX', hn.out.trans ((hb7.mono hn.out.size).trans (hb8.mono (by have := hn.out.size; have := hb7.size; omega)))⟩
                      case measure => simp [intOf]; omega
            · rw [if_neg hxe] at HS
              go_wp2_with fail
              refine CX4.out.mono ?_
              rintro e w5 ⟨rfl, hb5⟩
              go_wp2
              go_ret
              exact ⟨errV HS.out.symm, H4.out.2.trans (hb5.mono H4.out.2.size)⟩
          · have hj1 : j < t.key.length := by omega
            obtain ⟨b, o, eb, hbB, x0⟩ := HV.out.key j hj1
            have y0 := (h04.cell (p := ⟨b, o + j, none⟩) hbB).trans x0
            have hin := HIN'.out j hj1
            have hat := HAT.out j hj1 hall.out
            have han := HAN.out j hj1
            generalize t.key[j] = x at *
            obtain ⟨k, rfl⟩ : ∃ k : Nat, x = (k : Int) := ⟨x.toNat, by omega⟩
            have hk1 : k < t.cs.length := by omega
            obtain ⟨b', o', eb', hbB', _, _, z2, _⟩ := HV.out.cs k hk1
            have y2 := (h04.cell (p := ⟨b', o' + k * 7 + 2, none⟩) hbB').trans z2
            have hf : firmB t.cs (k : Int) = !(t.cs[k]).nl := by
              unfold firmB
              rw [Int.toNat_natCast, List.getElem?_eq_getElem hk1]
            rw [hf] at hat han
            rw [eb] at e2
            rw [eb'] at e1
            generalize (t.cs[k]).nl = nl at *
            have k0 : (0 : Int) ≤ (k : Int) := by omega
            have k1 : (k : Int) < (t.cs.length : Int) := by omega
            have j1 : (j : Int) < (t.key.length : Int) := by omega
            clear HAT HAN HAE HIN' x0 z2 hf hin eb eb'
            cases nl
            · have HX : Hid (_ = _) := hat
              clear hat han
              go_wp2_with fail
              go_quiet (fail)
              go_wp2_with fail
              go_roundw
              case rel => exact ⟨j + 1, hj1, by go_num, (show _ = _ by rw [HX.out]; rfl), hn.out.trans ((below_drewN _ _).mono hn.out.size)⟩
              case measure => simp [intOf]; omega
            · have hd : Hid (d = 33) := by
                rw [han rfl] at HS; exact HS
              clear hat han HS
              go_wp2_with fail
              go_quiet (fail)
              go_wp2
              go_ret
              exact ⟨errV hd.out.symm, h04.trans ((below_drewN _ _).mono h04.size)⟩
    · rw [if_neg hce] at HS
      go_wp2_with fail
      refine CC1.out.mono ?_
      rintro e w5 ⟨rfl, hb5⟩
      go_wp2
      go_ret
      exact ⟨errV HS.out.symm, H1.out.2.trans (hb5.mono H1.out.2.size)⟩

end Go.Proofs.YthbjheiogghjnaaGreatDoor
