/- The walks of the document's some, columns. The walk of the document's columns. -/
import Derived.Test.YthbjheiogghjnaaGreatDoorGWChkX
namespace Go.Proofs.YthbjheiogghjnaaGreatDoor
open Go.RowKit
set_option maxRecDepth 100000

theorem contains_take {l : List Int} {k : Nat} (hk : k < l.length) (x : Int) : (l.take (k + 1)).contains x = ((l.take k).contains x || (decide (l[k] = x))) := by
  rw [← List.take_append_getElem hk, Bool.eq_iff_iff]
  simp only [List.contains_iff_mem, List.mem_append, List.mem_singleton, Bool.or_eq_true, decide_eq_true_eq]
  constructor
  · rintro (h | h)
    · exact .inl h
    · exact .inr h.symm
  · rintro (h | h)
    · exact .inl h
    · exact .inr h.symm

set_option maxHeartbeats 4000000 in
theorem rsome_any (t : Tb) (a : TabP) (l : List Int) (p : Option Addr) (c : Nat) (w : World) (hR : RowI w w.heap.size p l) (hn : t.cs.length ≤ 64) (hlen : l.length ≤ 17592186043904) :
    Calls Tryz.prog 33 #[a.val t, .slice p l.length c] w fun e w' => e = .returned (.bool (listB t.cs.length l)) ∧ Below w.heap.size w w' := by
  have HA : Hid (RowI _ _ _ _) := hR
  have HL : Hid (listB t.cs.length l = (decide (1 ≤ l.length) && apartB t.cs.length l)) := rfl
  have HT : Hid (∀ j (hj : j < l.length), apartB t.cs.length (l.take (j + 1)) = (apartB t.cs.length (l.take j) && (decide (0 ≤ l[j]) && decide (l[j] < t.cs.length) && !(l.take j).contains l[j]))) := fun j hj => apart_take j hj
  have HN : Hid (∀ j, apartB t.cs.length (l.take j) = false → apartB t.cs.length l = false) := fun j h => apart_no h
  have HLN : Hid (64 < l.length → apartB t.cs.length l = false) := by
    intro h
    cases he : apartB t.cs.length l with
    | false => rfl
    | true => have := apart_len he; omega
  have HCT : Hid (∀ k (hk : k < l.length) (x : Int), (l.take (k + 1)).contains x = ((l.take k).contains x || decide (l[k] = x))) := fun k hk x => contains_take hk x
  have HB : Hid (BoxT _ _ _ _) := BoxT.new w t a
  have hb0 : Below w.heap.size w (w.alloc (.cells #[.string t.nm, .slice a.pc t.cs.length a.cc, .slice a.pk t.key.length a.ck, .slice a.px t.ix.length a.cx, .slice a.pr t.rf.length a.cr] 27)) := by go_grown
  clear hR
  generalize listB t.cs.length l = d at *
  unfold TabP.val at *
  by_cases h0 : l.length = 0
  · rw [h0] at HL
    go_enter Tryz.func33, Tryz.ntmps33
    go_wp2
    go_ret
    exact ⟨boolV (by rw [HL.out]; rfl), by go_grown⟩
  · rw [decide_eq_true (by omega : 1 ≤ l.length), Bool.true_and] at HL
    have h0' : ¬ (l.length : Int) < 1 := by omega
    rcases Nat.lt_or_ge 64 l.length with h64 | h64
    · have hd : Hid (d = false) := by rw [HLN.out h64] at HL; exact HL
      go_enter Tryz.func33, Tryz.ntmps33
      go_wp2
      go_ret
      exact ⟨boolV hd.out.symm, hb0⟩
    · have h64' : ¬ 64 < (l.length : Int) := by omega
      obtain ⟨hz0, e0, e1, e2, e3, e4⟩ := HB.out
      go_enter Tryz.func33, Tryz.ntmps33
      go_wp2_with fail
      generalize hw1 : w.alloc (.cells #[.string t.nm, .slice a.pc t.cs.length a.cc, .slice a.pk t.key.length a.ck, .slice a.px t.ix.length a.cx, .slice a.pr t.rf.length a.cr] 27) = w1 at *
      clear hw1 HB
      go_loopw [5] (fun i wr => ∃ j : Nat, j ≤ l.length ∧ i = .int .i64 (j : Int) ∧ Hid (apartB t.cs.length (l.take j) = true) ∧ Hid (Below w1.heap.size w1 wr)) (fun i _ => l.length - (intOf i).toNat)
      case atStart => exact ⟨0, Nat.zero_le _, by go_num, (show _ = _ by simp [apartB]), Below.refl _ _⟩
      case round =>
        obtain ⟨j, hj, rfl, hap, hn1⟩ := hrel
        have hbw : Below w.heap.size w wr := hb0.trans (hn1.out.mono hb0.size)
        by_cases hj0 : j = l.length
        · subst hj0
          rw [List.take_length] at hap
          go_wp2
          go_ret
          exact ⟨boolV (by rw [HL.out, hap.out]), hbw⟩
        · have hj1 : j < l.length := by omega
          obtain ⟨b, o, rfl, hbB, d0⟩ := HA.out j hj1
          have a0 := (hbw.cell (p := ⟨b, o + j, none⟩) hbB).trans d0
          have f1 := (hn1.out.cell (p := ⟨w.heap.size, 1, none⟩) hz0).trans e1
          have hst := HT.out j hj1
          rw [hap.out, Bool.true_and] at hst
          have hno := HN.out (j + 1)
          obtain ⟨x, hx⟩ : ∃ x, l[j] = x := ⟨_, rfl⟩
          have HX : Hid (l[j] = x ∧ True) := ⟨hx, trivial⟩
          rw [hx] at a0 d0 hst
          clear hx
          have hsz : wr.heap.size = wr.heap.size := rfl
          rcases (by omega : x < 0 ∨ (t.cs.length : Int) ≤ x ∨ (0 ≤ x ∧ x < t.cs.length)) with hx | hx | ⟨hx, hx2⟩
          · have hd : Hid (d = false) := by
              rw [hno (by rw [hst]; simp; omega)] at HL; exact HL
            clear hst hno
            go_wp2_with fail
            go_quiet (fail)
            go_wp2
            go_ret
            exact ⟨boolV hd.out.symm, hbw.trans ((below_drewN _ _).mono hbw.size)⟩
          · have hd : Hid (d = false) := by
              rw [hno (by rw [hst]; simp; omega)] at HL; exact HL
            clear hst hno
            have hx0 : ¬ x < 0 := by omega
            go_wp2_with fail
            go_quiet (fail)
            go_wp2
            go_ret
            exact ⟨boolV hd.out.symm, hbw.trans ((below_drewN _ _).mono hbw.size)⟩
          · have hx0 : ¬ x < 0 := by omega
            have hx3 : ¬ (t.cs.length : Int) ≤ x := by omega
            rw [decide_eq_true hx, decide_eq_true hx2, Bool.true_and, Bool.true_and] at hst
            have HST : Hid (apartB t.cs.length (l.take (j + 1)) = !(l.take j).contains x) := hst
            have HNO : Hid (apartB t.cs.length (l.take (j + 1)) = false → apartB t.cs.length l = false) := hno
            clear hst hno
            go_wp2_with fail
            go_quiet (fail)
            have hbq : Below w.heap.size w (wr.drewN nq) := hbw.trans ((below_drewN _ _).mono hbw.size)
            have hnq : Hid (Below w1.heap.size w1 (wr.drewN nq)) := hn1.out.trans ((below_drewN _ _).mono hn1.out.size)
            generalize wr.drewN nq = w2 at *
            go_wp2_with fail
            go_loopw [6] (fun i wr' => ∃ k : Nat, k ≤ j ∧ i = .int .i64 (k : Int) ∧ Hid ((l.take k).contains x = false) ∧ Hid (Below w2.heap.size w2 wr')) (fun i _ => j - (intOf i).toNat)
            case atStart => exact ⟨0, Nat.zero_le _, by go_num, (show _ = _ by simp), Below.refl _ _⟩
            case round =>
              obtain ⟨k, hk, rfl, hct, hn2⟩ := hrel
              have hb3 : Below w.heap.size w wr := hbq.trans (hn2.out.mono hbq.size)
              have h13 : Hid (Below w1.heap.size w1 wr) := hnq.out.trans (hn2.out.mono hnq.out.size)
              by_cases hk0 : k = j
              · subst hk0
                have hgo : Hid (apartB t.cs.length (l.take (k + 1)) = true) := (show _ = _ by rw [HST.out, hct.out]; rfl)
                go_wp2_with fail
                go_roundw
                case rel => exact ⟨k + 1, hj1, by go_num, hgo, h13⟩
                case measure => simp [intOf]; omega
              · have hk1 : k < j := by omega
                obtain ⟨b', o', eb, _, g0⟩ := HA.out k (by omega)
                injection eb with eb
                injection eb with eb1 eb2
                subst eb1 eb2
                have y0 := (hb3.cell (p := ⟨b, o + k, none⟩) hbB).trans g0
                have x0 := (hb3.cell (p := ⟨b, o + j, none⟩) hbB).trans d0
                have hc2 := HCT.out k (by omega) x
                rw [hct.out, Bool.false_or] at hc2
                have hcs : l[k] = x → (l.take j).contains x = true := by
                  intro h
                  rw [List.contains_iff_mem]
                  rw [List.mem_take_iff_getElem]
                  exact ⟨k, by omega, h⟩
                have k0 : (k : Int) < (l.length : Int) := by omega
                have k1 : (j : Int) < (l.length : Int) := by omega
                generalize l[k] = y at *
                by_cases hyx : y = x
                · subst hyx
                  have hd : Hid (d = false) := by
                    rw [HNO.out (by rw [HST.out, hcs rfl]; rfl)] at HL; exact HL
                  clear hc2 hcs
                  go_wp2_with fail
                  go_quiet (fail)
                  go_wp2
                  go_ret
                  exact ⟨boolV hd.out.symm, hb3.trans ((below_drewN _ _).mono hb3.size)⟩
                · rw [decide_eq_false hyx] at hc2
                  have HC2 : Hid (_ = _) := hc2
                  clear hc2 hcs
                  go_wp2_with fail
                  go_quiet (fail)
                  go_wp2_with fail
                  go_roundw
                  case rel => exact ⟨k + 1, hk1, by go_num, HC2, hn2.out.trans ((below_drewN _ _).mono hn2.out.size)⟩
                  case measure => simp [intOf]; omega

end Go.Proofs.YthbjheiogghjnaaGreatDoor

namespace Go.Proofs.YthbjheiogghjnaaGreatDoor
open Go.RowKit
set_option maxRecDepth 100000

set_option maxHeartbeats 8000000 in
theorem rcols_any (t : Tb) (a : TabP) (w : World) (hV : TabV w w.heap.size t a) (hok : t.ok) (hE : Env w) :
    Calls Tryz.prog 32 #[a.val t] w fun e w' => e = .returned (.int .i64 (firstE (colE t.cs) t.cs.length)) ∧ Below w.heap.size w w' := by
  have HA : Hid (RowC _ _ _ _) := hV.cs
  have HOK : Hid (∀ c ∈ t.cs, c.nm.size ≤ 140737488351232 ∧ c.df.ok) := hok.cn
  have HE : Hid (Env w) := hE
  have hlen := hok.cs
  have HB : Hid (BoxT _ _ _ _) := BoxT.new w t a
  have hb0 : Below w.heap.size w (w.alloc (.cells #[.string t.nm, .slice a.pc t.cs.length a.cc, .slice a.pk t.key.length a.ck, .slice a.px t.ix.length a.cx, .slice a.pr t.rf.length a.cr] 27)) := by go_grown
  have hsf := run_store_float
  clear hV hok hE
  unfold TabP.val at *
  go_enter Tryz.func32, Tryz.ntmps32
  go_wp2_with fail
  generalize hw1 : w.alloc (.cells #[.string t.nm, .slice a.pc t.cs.length a.cc, .slice a.pk t.key.length a.ck, .slice a.px t.ix.length a.cx, .slice a.pr t.rf.length a.cr] 27) = w1 at *
  have hz1 := HB.out.hg
  clear hw1
  go_loopw [3] (fun i wr => ∃ j : Nat, j ≤ t.cs.length ∧ i = .int .i64 (j : Int) ∧ Hid (firstE (colE t.cs) j = 0) ∧ Hid (Below w1.heap.size w1 wr)) (fun i _ => t.cs.length - (intOf i).toNat)
  case atStart => exact ⟨0, Nat.zero_le _, by go_num, rfl, Below.refl _ _⟩
  case round =>
    obtain ⟨i, hi, rfl, hfz, hn1⟩ := hrel
    have hbw : Below w.heap.size w wr := hb0.trans (hn1.out.mono hb0.size)
    have hB2 : BoxT wr w.heap.size t a := HB.out.on hn1.out hz1
    by_cases hi0 : i = t.cs.length
    · subst hi0
      obtain ⟨hz2, e0, e1, e2, e3, e4⟩ := hB2
      go_wp2
      go_ret
      exact ⟨errV hfz.out.symm, hbw⟩
    · have hi1 : i < t.cs.length := by omega
      obtain ⟨b, o, epc, hbB, a0, a1, a2, a3, a4, a5, a6⟩ := HA.out i hi1
      have k : ∀ {o : Nat} {v : Option Value}, w.cell? ⟨b, o, none⟩ = v → wr.cell? ⟨b, o, none⟩ = v := fun {o v} hc => (hbw.cell (p := ⟨b, o, none⟩) hbB).trans hc
      have y0 := k a0
      have y1 := k a1
      have y2 := k a2
      have y3 := k a3
      have y4 := k a4
      have y5 := k a5
      have y6 := k a6
      have hc := HOK.out t.cs[i] (List.getElem_mem hi1)
      have HC : Hid (colE t.cs i = colE1 (t.cs.take i) t.cs[i]) := colE_at hi1
      have HX' : Hid (firstE (colE t.cs) (i + 1) = colE t.cs i) := firstE_succ hfz.out
      have HY : Hid (¬ colE t.cs i = 0 → firstE (colE t.cs) t.cs.length = colE t.cs i) := fun h => firstE_end hfz.out hi1 h
      have HTW : Hid (∀ j (hj : j < i), (t.cs[j].nm.toList == t.cs[i].nm.toList) = true → twinB ((t.cs.take i).map Cl.nm) t.cs[i].nm = true) := by
        intro j hj h
        refine twin_hit (j := j) (by simp; omega) ?_
        simpa using h
      have HTN : Hid (∀ j (hj : j < i), twinB (((t.cs.take i).map Cl.nm).take (j + 1)) t.cs[i].nm = (twinB (((t.cs.take i).map Cl.nm).take j) t.cs[i].nm || (t.cs[j].nm.toList == t.cs[i].nm.toList))) := by
        intro j hj
        have h := twin_take (L := (t.cs.take i).map Cl.nm) (s := t.cs[i].nm) (j := j) (by simp; omega)
        rw [h]
        simp
      have HTE : Hid (((t.cs.take i).map Cl.nm).take i = (t.cs.take i).map Cl.nm) := (show _ = _ from List.take_of_length_le (by simp; omega))
      have CN : Hid (∀ w1, Calls Tryz.prog 31 #[.string t.cs[i].nm] w1 fun e w' => e = .returned (.bool (nameB t.cs[i].nm.data.toList)) ∧ Below w1.heap.size w1 w') := fun w1 => rname_any t.cs[i].nm w1 hc.1
      have CD : Hid (∀ w1, Below w.heap.size w w1 → Calls Tryz.prog 35 #[.agg #[.int .i64 t.cs[i].df.k, .int .i64 t.cs[i].df.n, .float .f64 t.cs[i].df.f, .string t.cs[i].df.s]] w1 fun e w' => e = .returned (.int .i64 t.cs[i].df.chk) ∧ Below w1.heap.size w1 w') := fun w1 hb => rcheck_ok t.cs[i].df w1 hc.2 (HE.out.on hb).hg (HE.out.on hb).hT
      have HBN : Hid (BoxC _ _ _) := BoxC.new wr t.cs[i]
      clear k a0 a1 a2 a3 a4 a5 a6 hc hfz
      obtain ⟨c, hcc⟩ : ∃ c, t.cs[i] = c := ⟨_, rfl⟩
      simp only [hcc] at y0 y1 y2 y3 y4 y5 y6 CN CD HBN HC HTW HTN
      clear hcc
      have hbx : Below w.heap.size w (wr.alloc (.cells #[.string c.nm, .int .i64 c.kd, .bool c.nl, .int .i64 c.df.k, .int .i64 c.df.n, .float .f64 c.df.f, .string c.df.s] 40)) := hbw.alloc hbw.size _
      have hnx : Hid (Below w1.heap.size w1 (wr.alloc (.cells #[.string c.nm, .int .i64 c.kd, .bool c.nl, .int .i64 c.df.k, .int .i64 c.df.n, .float .f64 c.df.f, .string c.df.s] 40))) := hn1.out.alloc hn1.out.size _
      generalize colE t.cs i = ce at *
      unfold colE1 at HC
      have hlw : w.heap.size < wr.heap.size := hB2.hg
      obtain ⟨hz2, e0, e1, e2, e3, e4⟩ := hB2
      rw [epc] at e1
      have EPC : Hid (a.pc = some ⟨b, o, none⟩ ∧ True) := ⟨epc, trivial⟩
      clear epc
      cases hnm : nameB c.nm.data.toList
      · rw [hnm] at CN HC
        simp only [Bool.false_eq_true, if_false] at HC
        have hd : Hid (firstE (colE t.cs) t.cs.length = 30) := by
          have h := HY.out (by rw [HC.out]; decide)
          rw [HC.out] at h; exact h
        clear hnm HX' HY
        go_wp2_with fail
        refine (CN.out _).mono ?_
        rintro e w5 ⟨rfl, hb5⟩
        go_wp2
        go_ret
        exact ⟨errV hd.out.symm, hbx.trans (hb5.mono hbx.size)⟩
      · rw [hnm] at CN HC
        simp only [if_true] at HC
        clear hnm
        go_wp2_with fail
        refine (CN.out _).mono ?_
        rintro e w5 ⟨rfl, hb5⟩
        have hB5 : BoxC w5 wr.heap.size c := HBN.out.on hb5 (by simp)
        have h05 : Below w.heap.size w w5 := hbx.trans (hb5.mono hbx.size)
        have h15 : Hid (Below w1.heap.size w1 w5) := hnx.out.trans (hb5.mono hnx.out.size)
        have hz5 : wr.heap.size + 1 ≤ w5.heap.size := hB5.hg
        have H5 : Hid (BoxC w5 wr.heap.size c ∧ Below w.heap.size w w5) := ⟨hB5, h05⟩
        have HT5 : Hid (BoxT w5 w.heap.size t a) := HB.out.on h15.out hz1
        clear hb5 hB5 CN HBN e0 e1 e2 e3 e4 y0 y1 y2 y3 y4 y5 y6
        generalize wr = w3 at *
        go_wp2_with fail
        go_loopw [5] (fun k wr => ∃ j : Nat, j ≤ i ∧ k = .int .i64 (j : Int) ∧ Hid (twinB (((t.cs.take i).map Cl.nm).take j) c.nm = false) ∧ Hid (Below w5.heap.size w5 wr)) (fun k _ => i - (intOf k).toNat)
        case atStart => exact ⟨0, Nat.zero_le _, by go_num, (show _ = _ by simp [twinB]), Below.refl _ _⟩
        case round =>
          obtain ⟨j, hj, rfl, htw, hn5⟩ := hrel
          have hBw : BoxC wr w3.heap.size c := H5.out.1.on hn5.out hz5
          have hTw : BoxT wr w.heap.size t a := HT5.out.on hn5.out (by omega)
          have hb6 : Below w.heap.size w wr := H5.out.2.trans (hn5.out.mono h05.size)
          have h16 : Hid (Below w1.heap.size w1 wr) := h15.out.trans (hn5.out.mono h15.out.size)
          obtain ⟨hzc, c0, c1, c2, c3, c4, c5, c6⟩ := hBw
          obtain ⟨hzt, e0, e1, e2, e3, e4⟩ := hTw
          rw [EPC.out.1] at e1
          by_cases hj0 : j = i
          · subst hj0
            rw [HTE.out] at htw
            rw [htw.out] at HC
            simp only [Bool.false_eq_true, if_false] at HC
            have CD' : Hid (Calls Tryz.prog 35 #[.agg #[.int .i64 c.df.k, .int .i64 c.df.n, .float .f64 c.df.f, .string c.df.s]] wr fun e w' => e = .returned (.int .i64 c.df.chk) ∧ Below wr.heap.size wr w') := CD.out wr hb6
            have HDF : Hid (defB c = (decide (c.df.chk = 0) && (decide (c.df.k = 0) || decide (c.df.k = c.kd)))) := rfl
            clear CD HTW HTN HTE HA HOK HE
            generalize defB c = db at *
            generalize c.df.chk = ch at *
            have H32 : Hid (ce = 32 → firstE (colE t.cs) t.cs.length = 32) := by
              intro h
              have h2 := HY.out (by rw [h]; decide)
              rw [h] at h2; exact h2
            have h06 : Below w3.heap.size w3 w3 := Below.refl _ _
            generalize c.df.k = dk at *
            generalize c.kd = kd at *
            clear HY H5 HT5 h06
            rcases (by omega : kd < 1 ∨ 5 < kd ∨ (1 ≤ kd ∧ kd ≤ 5)) with h1 | h1 | ⟨h1, h2⟩
            · have hd : Hid (firstE (colE t.cs) t.cs.length = 32) := H32.out (by
                have e : decide (1 ≤ kd) = false := by simp; omega
                rw [HC.out, e]; rfl)
              clear HC H32 HX'
              go_wp2
              go_ret
              exact ⟨errV hd.out.symm, hb6⟩
            · have hd : Hid (firstE (colE t.cs) t.cs.length = 32) := H32.out (by
                have e : decide (kd ≤ 5) = false := by simp; omega
                rw [HC.out, e, Bool.and_false]; rfl)
              clear HC H32 HX'
              go_wp2
              go_ret
              exact ⟨errV hd.out.symm, hb6⟩
            · rw [decide_eq_true h1, decide_eq_true h2, Bool.true_and, Bool.true_and, HDF.out] at HC
              by_cases hch : ch = 0
              · subst hch
                rw [decide_eq_true rfl, Bool.true_and] at HC
                by_cases hk1 : dk = kd
                · subst hk1
                  have hz : Hid (ce = 0) := by
                    rw [decide_eq_true rfl, Bool.or_true] at HC; exact HC
                  rw [hz.out] at HX'
                  clear HC H32
                  go_wp2_with fail
                  refine CD'.out.mono ?_
                  rintro e w7 ⟨rfl, hb7⟩
                  have g1 := (hb7.cell (p := ⟨w3.heap.size, 1, none⟩) hzc).trans c1
                  have g3 := (hb7.cell (p := ⟨w3.heap.size, 3, none⟩) hzc).trans c3
                  go_wp2_with fail
                  go_roundw
                  case rel => exact ⟨j + 1, hi1, by go_num, HX', h16.out.trans (hb7.mono h16.out.size)⟩
                  case measure => simp [intOf]; omega
                · by_cases hk0 : dk = 0
                  · subst hk0
                    have hz : Hid (ce = 0) := by
                      rw [decide_eq_true rfl, Bool.true_or] at HC; exact HC
                    rw [hz.out] at HX'
                    clear HC H32
                    go_wp2_with fail
                    refine CD'.out.mono ?_
                    rintro e w7 ⟨rfl, hb7⟩
                    have g1 := (hb7.cell (p := ⟨w3.heap.size, 1, none⟩) hzc).trans c1
                    have g3 := (hb7.cell (p := ⟨w3.heap.size, 3, none⟩) hzc).trans c3
                    go_wp2_with fail
                    go_roundw
                    case rel => exact ⟨j + 1, hi1, by go_num, HX', h16.out.trans (hb7.mono h16.out.size)⟩
                    case measure => simp [intOf]; omega
                  · have hd : Hid (firstE (colE t.cs) t.cs.length = 32) := H32.out (by
                      rw [HC.out, decide_eq_false hk0, decide_eq_false hk1]; rfl)
                    have n1 : (dk != kd) = true := by simpa using hk1
                    have n2 : (dk != 0) = true := by simpa using hk0
                    clear HC H32 HX'
                    go_wp2_with fail
                    refine CD'.out.mono ?_
                    rintro e w7 ⟨rfl, hb7⟩
                    have g1 := (hb7.cell (p := ⟨w3.heap.size, 1, none⟩) hzc).trans c1
                    have g3 := (hb7.cell (p := ⟨w3.heap.size, 3, none⟩) hzc).trans c3
                    go_wp2
                    go_ret
                    exact ⟨errV hd.out.symm, hb6.trans (hb7.mono hb6.size)⟩
              · have hd : Hid (firstE (colE t.cs) t.cs.length = 32) := H32.out (by
                  rw [HC.out, decide_eq_false hch]; rfl)
                clear HC H32 HX'
                go_wp2_with fail
                refine CD'.out.mono ?_
                rintro e w7 ⟨rfl, hb7⟩
                go_wp2
                go_ret
                exact ⟨errV hd.out.symm, hb6.trans (hb7.mono hb6.size)⟩
          · have hj1 : j < i := by omega
            obtain ⟨b', o', eb, _, x0, _⟩ := HA.out j (by omega)
            rw [EPC.out.1] at eb
            injection eb with eb
            injection eb with eb1 eb2
            subst eb1 eb2
            have y0 := (hb6.cell (p := ⟨b, o + j * 7, none⟩) hbB).trans x0
            have hhit := HTW.out j hj1
            have hnext := HTN.out j hj1
            rw [htw.out, Bool.false_or] at hnext
            have j0 : (j : Int) < (t.cs.length : Int) := by omega
            generalize t.cs[j].nm = un at *
            cases hsame : (un.toList == c.nm.toList)
            · rw [hsame] at hnext
              have HX : Hid (_ = _) := hnext
              clear hhit hnext
              go_wp2_with fail
              go_quiet (fail)
              go_wp2_with fail
              go_roundw
              case rel => exact ⟨j + 1, hj1, by go_num, HX, hn5.out.trans ((below_drewN _ _).mono hn5.out.size)⟩
              case measure => simp [intOf]; omega
            · have h31 := hhit hsame
              rw [h31] at HC
              simp only [if_true] at HC
              have hd : Hid (firstE (colE t.cs) t.cs.length = 31) := by
                have h := HY.out (by rw [HC.out]; decide)
                rw [HC.out] at h; exact h
              clear hhit hnext h31 HX' HY
              go_wp2_with fail
              go_quiet (fail)
              go_wp2
              go_ret
              exact ⟨errV hd.out.symm, hb6.trans ((below_drewN _ _).mono hb6.size)⟩

end Go.Proofs.YthbjheiogghjnaaGreatDoor
