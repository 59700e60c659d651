/- The walk of schema.Check. The walks of the document's some, columns. -/
import Derived.Test.YteadniomgbhecaaGreatDoorGWChkT
namespace Go.Proofs.YteadniomgbhecaaGreatDoor
open Go.RowKit
set_option maxRecDepth 100000

theorem firstE_take {f : Nat → Int} {j : Nat} (h : firstE f j = 0) : ∀ i, i < j → f i = 0 := by
  induction j with
  | zero => intro i hi; omega
  | succ j ih =>
    unfold firstE at h
    split at h
    · rename_i h0
      intro i hi
      by_cases e : i = j
      · rw [e]; exact h
      · exact ih h0 i (by omega)
    · rename_i h0; exact absurd h h0
theorem firstE_succ {f : Nat → Int} {j : Nat} (h : firstE f j = 0) : firstE f (j + 1) = f j := by
  show (if firstE f j = 0 then f j else firstE f j) = f j
  rw [if_pos h]
theorem firstE_end {f : Nat → Int} {j n : Nat} (h : firstE f j = 0) (hj : j < n) (hf : ¬ f j = 0) : firstE f n = f j := firstE_hit (firstE_take h) hf hj

set_option maxHeartbeats 4000000 in
theorem check_anyT (t : Tb) (a : TabP) (w : World) (hV : TabV w w.heap.size t a) (hok : t.ok) (hE : Env w) :
    Calls Tryz.prog 18 #[a.val t] w fun e w' => e = .returned (.int .i64 (checkS t)) ∧ Below w.heap.size w w' := by
  have CN : Hid (∀ w1, Calls Tryz.prog 28 #[.string t.nm] w1 fun e w' => e = .returned (.bool (nameB t.nm.data.toList)) ∧ Below w1.heap.size w1 w') := fun w1 => name_any t.nm w1 hok.nm
  have CC : Hid (∀ w1, Calls Tryz.prog 29 #[a.val t] w1 fun e w' => e = .returned (.bool (countsB t)) ∧ Below w1.heap.size w1 w') := fun w1 => counts_any t a w1 (by have := hok.cs; omega) (by have := hok.ix; omega) (by have := hok.rf; omega)
  have CL : Hid (∀ w1 (j : Nat), j < t.cs.length → Below w.heap.size w w1 → Calls Tryz.prog 30 #[.slice a.pc t.cs.length a.cc, .int .i64 (j : Int)] w1 fun e w' => e = .returned (.int .i64 (colE t.cs j)) ∧ Below w1.heap.size w1 w') := fun w1 j hj hb => checkCol_any t.cs a.pc a.cc j hj w1 (hV.on hb).cs hok.cs hV.hc hok.cn (hE.on hb)
  have CK : Hid (t.cs.length ≤ 64 → ∀ w1, Below w.heap.size w w1 → Calls Tryz.prog 31 #[a.val t] w1 fun e w' => e = .returned (.bool (keyB t)) ∧ Below w1.heap.size w1 w') := fun hn w1 hb => key_any t a w1 (hV.on hb) hn hok.key
  have CX : Hid (t.cs.length ≤ 64 → ∀ w1 (j : Nat), j < t.ix.length → Below w.heap.size w w1 → Calls Tryz.prog 32 #[a.val t, .int .i64 (j : Int)] w1 fun e w' => e = .returned (.int .i64 (ixE t.cs.length t.ix j)) ∧ Below w1.heap.size w1 w') := fun hn w1 j hj hb => checkIx_any t a j hj w1 (hV.on hb) hn hok.ix hok.xn
  have CF : Hid (t.cs.length ≤ 64 → ∀ w1 (r : Rf) (q : Option Addr) (cq : Nat), r ∈ t.rf → RowI w1 w1.heap.size q r.cs → Calls Tryz.prog 33 #[a.val t, .agg #[.slice q r.cs.length cq, .string r.tb]] w1 fun e w' => e = .returned (.int .i64 (rfE1 t.cs.length r)) ∧ Below w1.heap.size w1 w') := fun hn w1 r q cq hr h => checkRf_any t a r q cq w1 h hn (hok.rn r hr)
  have HS : Hid (checkS t = if nameB t.nm.data.toList then (if countsB t then (if firstE (colE t.cs) t.cs.length = 0 then (if keyB t then (if firstE (ixE t.cs.length t.ix) t.ix.length = 0 then firstE (rfE t.cs.length t.rf) t.rf.length else firstE (ixE t.cs.length t.ix) t.ix.length) else 33) else firstE (colE t.cs) t.cs.length) else 2) else 30) := rfl
  have HF : Hid (RowF w w.heap.size a.pr t.rf) := hV.rf
  have hl1 := hok.cs
  have hl2 := hok.ix
  have hl3 := hok.rf
  have HCN : Hid (countsB t = true → t.cs.length ≤ 64) := by
    intro h
    unfold countsB at h
    simp only [Bool.and_eq_true, decide_eq_true_eq] at h
    omega
  have HB : Hid (BoxT _ _ _ _) := BoxT.new w t a
  have hb0 : Below w.heap.size w (w.alloc (.cells #[.string t.nm, .slice a.pc t.cs.length a.cc, .slice a.pk t.key.length a.ck, .slice a.px t.ix.length a.cx, .slice a.pr t.rf.length a.cr] 27)) := by go_grown
  clear hV hok hE
  generalize checkS t = d at *
  unfold TabP.val at *
  cases hnm : nameB t.nm.data.toList
  · rw [hnm] at CN HS
    simp only [Bool.false_eq_true, if_false] at HS
    clear hnm
    go_enter Tryz.func18, Tryz.ntmps18
    go_wp2_with fail
    refine (CN.out _).mono ?_
    rintro e w5 ⟨rfl, hb5⟩
    go_wp2
    go_ret
    exact ⟨errV HS.out.symm, hb0.trans (hb5.mono hb0.size)⟩
  · rw [hnm] at CN HS
    simp only [if_true] at HS
    clear hnm
    go_enter Tryz.func18, Tryz.ntmps18
    go_wp2_with fail
    refine (CN.out _).mono ?_
    rintro e w1 ⟨rfl, hb1⟩
    have hB1 : BoxT w1 w.heap.size t a := HB.out.on hb1 (by simp)
    have h01 : Below w.heap.size w w1 := hb0.trans (hb1.mono hb0.size)
    have H1 : Hid (BoxT w1 w.heap.size t a ∧ Below w.heap.size w w1) := ⟨hB1, h01⟩
    obtain ⟨hz1, e0, e1, e2, e3, e4⟩ := hB1
    clear hb1 h01 CN HB hb0
    cases hct : countsB t
    · rw [hct] at CC HS
      simp only [Bool.false_eq_true, if_false] at HS
      clear hct
      go_wp2_with fail
      refine (CC.out _).mono ?_
      rintro e w5 ⟨rfl, hb5⟩
      go_wp2
      go_ret
      exact ⟨errV HS.out.symm, H1.out.2.trans (hb5.mono H1.out.2.size)⟩
    · have h64 := HCN.out hct
      rw [hct] at CC HS
      simp only [if_true] at HS
      clear hct HCN
      have CK' : Hid (∀ w1, Below w.heap.size w w1 → _) := CK.out h64
      have CX' : Hid (∀ w1 (j : Nat), j < t.ix.length → Below w.heap.size w w1 → _) := CX.out h64
      have CF' : Hid (∀ w1 (r : Rf) (q : Option Addr) (cq : Nat), r ∈ t.rf → RowI w1 w1.heap.size q r.cs → _) := CF.out h64
      clear CK CX CF
      go_wp2_with fail
      refine (CC.out _).mono ?_
      rintro e w2 ⟨rfl, hb2⟩
      have hB2 : BoxT w2 w.heap.size t a := H1.out.1.on hb2 hz1
      have h02 : Below w.heap.size w w2 := H1.out.2.trans (hb2.mono H1.out.2.size)
      have H2 : Hid (BoxT w2 w.heap.size t a ∧ Below w.heap.size w w2) := ⟨hB2, h02⟩
      clear e0 e1 e2 e3 e4 hz1
      obtain ⟨hz2, e0, e1, e2, e3, e4⟩ := hB2
      clear hb2 h02 CC H1
      go_wp2_with fail
      go_loopw [20] (fun k wr => ∃ j : Nat, j ≤ t.cs.length ∧ k = .int .i64 (j : Int) ∧ Hid (firstE (colE t.cs) j = 0) ∧ Hid (Below (w.heap.size + 1) w2 wr)) (fun k _ => t.cs.length - (intOf k).toNat)
      case atStart => exact ⟨0, Nat.zero_le _, by go_num, rfl, Below.refl _ _⟩
      case round =>
        obtain ⟨j, hj, rfl, hfz, hn⟩ := hrel
        have hB3 : BoxT wr w.heap.size t a := H2.out.1.on hn.out (by omega)
        have h03 : Below w.heap.size w wr := H2.out.2.trans (hn.out.mono (by omega))
        by_cases hj0 : j = t.cs.length
        · subst hj0
          rw [hfz.out] at HS
          simp only [if_true] at HS
          clear e0 e1 e2 e3 e4 hz2 H2 hn hfz CL
          generalize wr = w3 at *
          have H3 : Hid (BoxT w3 w.heap.size t a ∧ Below w.heap.size w w3) := ⟨hB3, h03⟩
          obtain ⟨hz3, e0, e1, e2, e3, e4⟩ := hB3
          have CK3 : Hid (Calls _ _ _ _ _) := CK'.out w3 h03
          clear CK' h03
          have CK3' : Hid (Calls Tryz.prog 31 #[.agg #[.string t.nm, .slice a.pc t.cs.length a.cc, .slice a.pk t.key.length a.ck, .slice a.px t.ix.length a.cx, .slice a.pr t.rf.length a.cr]] w3 fun e w' => e = .returned (.bool (keyB t)) ∧ Below w3.heap.size w3 w') := CK3
          clear CK3
          cases hky : keyB t
          · rw [hky] at CK3' HS
            simp only [Bool.false_eq_true, if_false] at HS
            go_wp2_with fail
            refine CK3'.out.mono ?_
            rintro e w4 ⟨rfl, hb4⟩
            go_wp2
            go_ret
            exact ⟨errV HS.out.symm, H3.out.2.trans (hb4.mono H3.out.2.size)⟩
          · rw [hky] at CK3' HS
            simp only [if_true] at HS
            clear hky
            go_wp2_with fail
            refine CK3'.out.mono ?_
            rintro e w4 ⟨rfl, hb4⟩
            have hB4 : BoxT w4 w.heap.size t a := H3.out.1.on hb4 hz3
            have h04 : Below w.heap.size w w4 := H3.out.2.trans (hb4.mono H3.out.2.size)
            have H4 : Hid (BoxT w4 w.heap.size t a ∧ Below w.heap.size w w4) := ⟨hB4, h04⟩
            clear e0 e1 e2 e3 e4 hz3
            obtain ⟨hz4, e0, e1, e2, e3, e4⟩ := hB4
            clear hb4 h04 CK3' H3
            go_wp2_with fail
            go_loopw [37] (fun k wr => ∃ j : Nat, j ≤ t.ix.length ∧ k = .int .i64 (j : Int) ∧ Hid (firstE (ixE t.cs.length t.ix) j = 0) ∧ Hid (Below (w.heap.size + 1) w4 wr)) (fun k _ => t.ix.length - (intOf k).toNat)
            case atStart => exact ⟨0, Nat.zero_le _, by go_num, rfl, Below.refl _ _⟩
            case round =>
              obtain ⟨j, hj, rfl, hfz, hn⟩ := hrel
              have hB5 : BoxT wr w.heap.size t a := H4.out.1.on hn.out (by omega)
              have h05 : Below w.heap.size w wr := H4.out.2.trans (hn.out.mono (by omega))
              by_cases hj0 : j = t.ix.length
              · subst hj0
                rw [hfz.out] at HS
                simp only [if_true] at HS
                clear e0 e1 e2 e3 e4 hz4 H4 hn hfz CX'
                generalize wr = w5 at *
                have H5 : Hid (BoxT w5 w.heap.size t a ∧ Below w.heap.size w w5) := ⟨hB5, h05⟩
                obtain ⟨hz5, e0, e1, e2, e3, e4⟩ := hB5
                clear h05
                go_wp2_with fail
                go_loopw [50] (fun k wr => ∃ j : Nat, j ≤ t.rf.length ∧ k = .int .i64 (j : Int) ∧ Hid (firstE (rfE t.cs.length t.rf) j = 0) ∧ Hid (Below (w.heap.size + 1) w5 wr)) (fun k _ => t.rf.length - (intOf k).toNat)
                case atStart => exact ⟨0, Nat.zero_le _, by go_num, rfl, Below.refl _ _⟩
                case round =>
                  obtain ⟨j, hj, rfl, hfz, hn⟩ := hrel
                  have hB6 : BoxT wr w.heap.size t a := H5.out.1.on hn.out (by omega)
                  have h06 : Below w.heap.size w wr := H5.out.2.trans (hn.out.mono (by omega))
                  by_cases hj0 : j = t.rf.length
                  · subst hj0
                    rw [hfz.out] at HS
                    go_wp2
                    go_ret
                    exact ⟨errV HS.out.symm, h06⟩
                  · have hj1 : j < t.rf.length := by omega
                    obtain ⟨b, o, epr, hbB, ⟨q, cq, x0, hq⟩, x1⟩ := HF.out j hj1
                    have y0 := (h06.cell (p := ⟨b, o + j * 2, none⟩) hbB).trans x0
                    have y1 := (h06.cell (p := ⟨b, o + j * 2 + 1, none⟩) hbB).trans x1
                    have C6 : Hid (∀ w1, Below w.heap.size w w1 → Calls Tryz.prog 33 #[.agg #[.string t.nm, .slice a.pc t.cs.length a.cc, .slice a.pk t.key.length a.ck, .slice a.px t.ix.length a.cx, .slice a.pr t.rf.length a.cr], .agg #[.slice q (t.rf[j]).cs.length cq, .string (t.rf[j]).tb]] w1 fun e w' => e = .returned (.int .i64 (rfE t.cs.length t.rf j)) ∧ Below w1.heap.size w1 w') := fun w1 hb => by
                      have h := CF'.out w1 t.rf[j] q cq (List.getElem_mem hj1) (hq.on hb)
                      rw [← rfE_at hj1] at h
                      exact h
                    have HX' : Hid (firstE (rfE t.cs.length t.rf) (j + 1) = rfE t.cs.length t.rf j) := firstE_succ hfz.out
                    have HY : Hid (¬ rfE t.cs.length t.rf j = 0 → firstE (rfE t.cs.length t.rf) t.rf.length = rfE t.cs.length t.rf j) := fun h => firstE_end hfz.out hj1 h
                    clear CF' e0 e1 e2 e3 e4 x0 x1 hq HF
                    obtain ⟨hz6, e0, e1, e2, e3, e4⟩ := hB6
                    rw [epr] at e4
                    rw [epr] at C6
                    generalize rfE t.cs.length t.rf j = ce at *
                    generalize (t.rf[j]).cs.length = rl at *
                    generalize (t.rf[j]).tb = rt at *
                    simp only [epr]
                    have hb7 : Below w.heap.size w (wr.alloc (.cells #[.slice q rl cq, .string rt] 62)) := h06.alloc h06.size _
                    by_cases hce : ce = 0
                    · subst hce
                      go_wp2_with fail
                      refine (C6.out _ hb7).mono ?_
                      rintro e w8 ⟨rfl, hb8⟩
                      go_wp2_with fail
                      go_roundw
                      case rel => exact ⟨j + 1, hj1, by go_num, HX', (hn.out.alloc (by omega) _).trans (hb8.mono (by simp; omega))⟩
                      case measure => simp [intOf]; omega
                    · rw [HY.out hce] at HS
                      go_wp2_with fail
                      refine (C6.out _ hb7).mono ?_
                      rintro e w8 ⟨rfl, hb8⟩
                      go_wp2
                      go_ret
                      exact ⟨errV HS.out.symm, hb7.trans (hb8.mono hb7.size)⟩
              · have hj1 : j < t.ix.length := by omega
                have C5 : Hid (Calls Tryz.prog 32 #[.agg #[.string t.nm, .slice a.pc t.cs.length a.cc, .slice a.pk t.key.length a.ck, .slice a.px t.ix.length a.cx, .slice a.pr t.rf.length a.cr], .int .i64 (j : Int)] wr fun e w' => e = .returned (.int .i64 (ixE t.cs.length t.ix j)) ∧ Below wr.heap.size wr w') := CX'.out wr j hj1 h05
                have HX' : Hid (firstE (ixE t.cs.length t.ix) (j + 1) = ixE t.cs.length t.ix j) := firstE_succ hfz.out
                have HY : Hid (¬ ixE t.cs.length t.ix j = 0 → firstE (ixE t.cs.length t.ix) t.ix.length = ixE t.cs.length t.ix j) := fun h => firstE_end hfz.out hj1 h
                clear CX' e0 e1 e2 e3 e4
                obtain ⟨hz5, e0, e1, e2, e3, e4⟩ := hB5
                generalize ixE t.cs.length t.ix j = ce at *
                by_cases hce : ce = 0
                · subst hce
                  go_wp2_with fail
                  refine C5.out.mono ?_
                  rintro e w6 ⟨rfl, hb6⟩
                  go_wp2_with fail
                  go_roundw
                  case rel => exact ⟨j + 1, hj1, by go_num, HX', hn.out.trans (hb6.mono (by omega))⟩
                  case measure => simp [intOf]; omega
                · rw [HY.out hce, if_neg hce] at HS
                  go_wp2_with fail
                  refine C5.out.mono ?_
                  rintro e w6 ⟨rfl, hb6⟩
                  go_wp2
                  go_ret
                  exact ⟨errV HS.out.symm, h05.trans (hb6.mono h05.size)⟩
        · have hj1 : j < t.cs.length := by omega
          have C3 : Hid (Calls _ _ _ _ _) := CL.out wr j hj1 h03
          have HX := firstE_succ hfz.out
          have HY : Hid (¬ colE t.cs j = 0 → firstE (colE t.cs) t.cs.length = colE t.cs j) := fun h => firstE_end hfz.out hj1 h
          have HX' : Hid (firstE (colE t.cs) (j + 1) = colE t.cs j) := HX
          clear HX CL e0 e1 e2 e3 e4
          obtain ⟨hz3, e0, e1, e2, e3, e4⟩ := hB3
          generalize colE t.cs j = ce at *
          by_cases hce : ce = 0
          · subst hce
            go_wp2_with fail
            refine C3.out.mono ?_
            rintro e w5 ⟨rfl, hb5⟩
            go_wp2_with fail
            go_roundw
            case rel => exact ⟨j + 1, hj1, by go_num, HX', hn.out.trans (hb5.mono (by omega))⟩
            case measure => simp [intOf]; omega
          · rw [HY.out hce, if_neg hce] at HS
            go_wp2_with fail
            refine C3.out.mono ?_
            rintro e w5 ⟨rfl, hb5⟩
            go_wp2
            go_ret
            exact ⟨errV HS.out.symm, h03.trans (hb5.mono h03.size)⟩

end Go.Proofs.YteadniomgbhecaaGreatDoor

namespace Go.Proofs.YteadniomgbhecaaGreatDoor
open Go.RowKit
set_option maxRecDepth 100000

theorem contains_take {l : List Int} {k : Nat} (hk : k < l.length) (x : Int) : (l.take (k + 1)).contains x = ((l.take k).contains x || (decide (l[k] = x))) := by
  rw [← List.take_append_getElem hk, Bool.eq_iff_iff]
  simp only [List.contains_iff_mem, List.mem_append, List.mem_singleton, Bool.or_eq_true, decide_eq_true_eq]
  constructor
  · rintro (h | h)
    · exact .inl h
    · exact .inr h.symm
  · rintro (h | h)
    · exact .inl h
    · exact .inr h.symm

set_option maxHeartbeats 4000000 in
theorem rsome_any (t : Tb) (a : TabP) (l : List Int) (p : Option Addr) (c : Nat) (w : World) (hR : RowI w w.heap.size p l) (hn : t.cs.length ≤ 64) (hlen : l.length ≤ 17592186043904) :
    Calls Tryz.prog 44 #[a.val t, .slice p l.length c] w fun e w' => e = .returned (.bool (listB t.cs.length l)) ∧ Below w.heap.size w w' := by
  have HA : Hid (RowI _ _ _ _) := hR
  have HL : Hid (listB t.cs.length l = (decide (1 ≤ l.length) && apartB t.cs.length l)) := rfl
  have HT : Hid (∀ j (hj : j < l.length), apartB t.cs.length (l.take (j + 1)) = (apartB t.cs.length (l.take j) && (decide (0 ≤ l[j]) && decide (l[j] < t.cs.length) && !(l.take j).contains l[j]))) := fun j hj => apart_take j hj
  have HN : Hid (∀ j, apartB t.cs.length (l.take j) = false → apartB t.cs.length l = false) := fun j h => apart_no h
  have HLN : Hid (64 < l.length → apartB t.cs.length l = false) := by
    intro h
    cases he : apartB t.cs.length l with
    | false => rfl
    | true => have := apart_len he; omega
  have HCT : Hid (∀ k (hk : k < l.length) (x : Int), (l.take (k + 1)).contains x = ((l.take k).contains x || decide (l[k] = x))) := fun k hk x => contains_take hk x
  have HB : Hid (BoxT _ _ _ _) := BoxT.new w t a
  have hb0 : Below w.heap.size w (w.alloc (.cells #[.string t.nm, .slice a.pc t.cs.length a.cc, .slice a.pk t.key.length a.ck, .slice a.px t.ix.length a.cx, .slice a.pr t.rf.length a.cr] 27)) := by go_grown
  clear hR
  generalize listB t.cs.length l = d at *
  unfold TabP.val at *
  by_cases h0 : l.length = 0
  · rw [h0] at HL
    go_enter Tryz.func44, Tryz.ntmps44
    go_wp2
    go_ret
    exact ⟨boolV (by rw [HL.out]; rfl), by go_grown⟩
  · rw [decide_eq_true (by omega : 1 ≤ l.length), Bool.true_and] at HL
    have h0' : ¬ (l.length : Int) < 1 := by omega
    rcases Nat.lt_or_ge 64 l.length with h64 | h64
    · have hd : Hid (d = false) := by rw [HLN.out h64] at HL; exact HL
      go_enter Tryz.func44, Tryz.ntmps44
      go_wp2
      go_ret
      exact ⟨boolV hd.out.symm, hb0⟩
    · have h64' : ¬ 64 < (l.length : Int) := by omega
      obtain ⟨hz0, e0, e1, e2, e3, e4⟩ := HB.out
      go_enter Tryz.func44, Tryz.ntmps44
      go_wp2_with fail
      generalize hw1 : w.alloc (.cells #[.string t.nm, .slice a.pc t.cs.length a.cc, .slice a.pk t.key.length a.ck, .slice a.px t.ix.length a.cx, .slice a.pr t.rf.length a.cr] 27) = w1 at *
      clear hw1 HB
      go_loopw [5] (fun i wr => ∃ j : Nat, j ≤ l.length ∧ i = .int .i64 (j : Int) ∧ Hid (apartB t.cs.length (l.take j) = true) ∧ Hid (Below w1.heap.size w1 wr)) (fun i _ => l.length - (intOf i).toNat)
      case atStart => exact ⟨0, Nat.zero_le _, by go_num, (show _ = _ by simp [apartB]), Below.refl _ _⟩
      case round =>
        obtain ⟨j, hj, rfl, hap, hn1⟩ := hrel
        have hbw : Below w.heap.size w wr := hb0.trans (hn1.out.mono hb0.size)
        by_cases hj0 : j = l.length
        · subst hj0
          rw [List.take_length] at hap
          go_wp2
          go_ret
          exact ⟨boolV (by rw [HL.out, hap.out]), hbw⟩
        · have hj1 : j < l.length := by omega
          obtain ⟨b, o, rfl, hbB, d0⟩ := HA.out j hj1
          have a0 := (hbw.cell (p := ⟨b, o + j, none⟩) hbB).trans d0
          have f1 := (hn1.out.cell (p := ⟨w.heap.size, 1, none⟩) hz0).trans e1
          have hst := HT.out j hj1
          rw [hap.out, Bool.true_and] at hst
          have hno := HN.out (j + 1)
          obtain ⟨x, hx⟩ : ∃ x, l[j] = x := ⟨_, rfl⟩
          have HX : Hid (l[j] = x ∧ True) := ⟨hx, trivial⟩
          rw [hx] at a0 d0 hst
          clear hx
          have hsz : wr.heap.size = wr.heap.size := rfl
          rcases (by omega : x < 0 ∨ (t.cs.length : Int) ≤ x ∨ (0 ≤ x ∧ x < t.cs.length)) with hx | hx | ⟨hx, hx2⟩
          · have hd : Hid (d = false) := by
              rw [hno (by rw [hst]; simp; omega)] at HL; exact HL
            clear hst hno
            go_wp2_with fail
            go_quiet (fail)
            go_wp2
            go_ret
            exact ⟨boolV hd.out.symm, hbw.trans ((below_drewN _ _).mono hbw.size)⟩
          · have hd : Hid (d = false) := by
              rw [hno (by rw [hst]; simp; omega)] at HL; exact HL
            clear hst hno
            have hx0 : ¬ x < 0 := by omega
            go_wp2_with fail
            go_quiet (fail)
            go_wp2
            go_ret
            exact ⟨boolV hd.out.symm, hbw.trans ((below_drewN _ _).mono hbw.size)⟩
          · have hx0 : ¬ x < 0 := by omega
            have hx3 : ¬ (t.cs.length : Int) ≤ x := by omega
            rw [decide_eq_true hx, decide_eq_true hx2, Bool.true_and, Bool.true_and] at hst
            have HST : Hid (apartB t.cs.length (l.take (j + 1)) = !(l.take j).contains x) := hst
            have HNO : Hid (apartB t.cs.length (l.take (j + 1)) = false → apartB t.cs.length l = false) := hno
            clear hst hno
            go_wp2_with fail
            go_quiet (fail)
            have hbq : Below w.heap.size w (wr.drewN nq) := hbw.trans ((below_drewN _ _).mono hbw.size)
            have hnq : Hid (Below w1.heap.size w1 (wr.drewN nq)) := hn1.out.trans ((below_drewN _ _).mono hn1.out.size)
            generalize wr.drewN nq = w2 at *
            go_wp2_with fail
            go_loopw [6] (fun i wr' => ∃ k : Nat, k ≤ j ∧ i = .int .i64 (k : Int) ∧ Hid ((l.take k).contains x = false) ∧ Hid (Below w2.heap.size w2 wr')) (fun i _ => j - (intOf i).toNat)
            case atStart => exact ⟨0, Nat.zero_le _, by go_num, (show _ = _ by simp), Below.refl _ _⟩
            case round =>
              obtain ⟨k, hk, rfl, hct, hn2⟩ := hrel
              have hb3 : Below w.heap.size w wr := hbq.trans (hn2.out.mono hbq.size)
              have h13 : Hid (Below w1.heap.size w1 wr) := hnq.out.trans (hn2.out.mono hnq.out.size)
              by_cases hk0 : k = j
              · subst hk0
                have hgo : Hid (apartB t.cs.length (l.take (k + 1)) = true) := (show _ = _ by rw [HST.out, hct.out]; rfl)
                go_wp2_with fail
                go_roundw
                case rel => exact ⟨k + 1, hj1, by go_num, hgo, h13⟩
                case measure => simp [intOf]; omega
              · have hk1 : k < j := by omega
                obtain ⟨b', o', eb, _, g0⟩ := HA.out k (by omega)
                injection eb with eb
                injection eb with eb1 eb2
                subst eb1 eb2
                have y0 := (hb3.cell (p := ⟨b, o + k, none⟩) hbB).trans g0
                have x0 := (hb3.cell (p := ⟨b, o + j, none⟩) hbB).trans d0
                have hc2 := HCT.out k (by omega) x
                rw [hct.out, Bool.false_or] at hc2
                have hcs : l[k] = x → (l.take j).contains x = true := by
                  intro h
                  rw [List.contains_iff_mem]
                  rw [List.mem_take_iff_getElem]
                  exact ⟨k, by omega, h⟩
                have k0 : (k : Int) < (l.length : Int) := by omega
                have k1 : (j : Int) < (l.length : Int) := by omega
                generalize l[k] = y at *
                by_cases hyx : y = x
                · subst hyx
                  have hd : Hid (d = false) := by
                    rw [HNO.out (by rw [HST.out, hcs rfl]; rfl)] at HL; exact HL
                  clear hc2 hcs
                  go_wp2_with fail
                  go_quiet (fail)
                  go_wp2
                  go_ret
                  exact ⟨boolV hd.out.symm, hb3.trans ((below_drewN _ _).mono hb3.size)⟩
                · rw [decide_eq_false hyx] at hc2
                  have HC2 : Hid (_ = _) := hc2
                  clear hc2 hcs
                  go_wp2_with fail
                  go_quiet (fail)
                  go_wp2_with fail
                  go_roundw
                  case rel => exact ⟨k + 1, hk1, by go_num, HC2, hn2.out.trans ((below_drewN _ _).mono hn2.out.size)⟩
                  case measure => simp [intOf]; omega

end Go.Proofs.YteadniomgbhecaaGreatDoor
