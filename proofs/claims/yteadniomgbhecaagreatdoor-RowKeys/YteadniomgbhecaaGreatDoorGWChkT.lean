/- The walks of keys, indexes, references. The walks of indexes and references. -/
import Derived.Test.YteadniomgbhecaaGreatDoorGFLaid8
namespace Go.Proofs.YteadniomgbhecaaGreatDoor
open Go.RowKit
set_option maxRecDepth 100000

/-- a table's box -/
structure BoxT (w : World) (g : Nat) (t : Tb) (a : TabP) : Prop where
  hg : g < w.heap.size
  c0 : w.cell? ⟨g, 0, none⟩ = some (.string t.nm)
  c1 : w.cell? ⟨g, 1, none⟩ = some (.slice a.pc t.cs.length a.cc)
  c2 : w.cell? ⟨g, 2, none⟩ = some (.slice a.pk t.key.length a.ck)
  c3 : w.cell? ⟨g, 3, none⟩ = some (.slice a.px t.ix.length a.cx)
  c4 : w.cell? ⟨g, 4, none⟩ = some (.slice a.pr t.rf.length a.cr)
theorem BoxT.on {w w' : World} {g : Nat} {t : Tb} {a : TabP} (h : BoxT w g t a) {B : Nat} (hb : Below B w w') (hB : g < B) : BoxT w' g t a := by
  have k : ∀ {o : Nat} {v : Option Value}, w.cell? ⟨g, o, none⟩ = v → w'.cell? ⟨g, o, none⟩ = v := fun {o v} hc => (hb.cell (p := ⟨g, o, none⟩) hB).trans hc
  exact ⟨Nat.lt_of_lt_of_le h.hg hb.size, k h.c0, k h.c1, k h.c2, k h.c3, k h.c4⟩
theorem BoxT.new (w : World) (t : Tb) (a : TabP) : BoxT (w.alloc (.cells #[.string t.nm, .slice a.pc t.cs.length a.cc, .slice a.pk t.key.length a.ck, .slice a.px t.ix.length a.cx, .slice a.pr t.rf.length a.cr] 27)) w.heap.size t a := by
  refine ⟨by simp, ?_, ?_, ?_, ?_, ?_⟩ <;> simp [go_sem]

set_option maxHeartbeats 4000000 in
theorem key_any (t : Tb) (a : TabP) (w : World) (hV : TabV w w.heap.size t a) (hn : t.cs.length ≤ 64) (hk : t.key.length ≤ 17592186043904) :
    Calls Tryz.prog 31 #[a.val t] w fun e w' => e = .returned (.bool (keyB t)) ∧ Below w.heap.size w w' := by
  have HA : Hid (RowI w w.heap.size a.pk t.key ∧ RowC w w.heap.size a.pc t.cs) := ⟨hV.key, hV.cs⟩
  have CA : Hid (∀ w1, Below w.heap.size w w1 → Calls Tryz.prog 58 #[a.val t, .slice a.pk t.key.length a.ck] w1 fun e w' => e = .returned (.bool (apartB t.cs.length t.key)) ∧ Below w1.heap.size w1 w') := fun w1 hb => apart_any t a t.key a.pk a.ck w1 (hV.key.on hb) hn hk
  have HK : Hid (keyB t = (decide (1 ≤ t.key.length) && apartB t.cs.length t.key && t.key.all (firmB t.cs))) := rfl
  have HIN : Hid (apartB t.cs.length t.key = true → ∀ j (hj : j < t.key.length), 0 ≤ t.key[j] ∧ t.key[j] < t.cs.length) := by
    intro h j hj
    unfold apartB at h
    simp only [Bool.and_eq_true, List.all_eq_true, decide_eq_true_eq] at h
    exact h.1 _ (List.getElem_mem hj)
  have HAT : Hid (∀ j (hj : j < t.key.length), (t.key.take j).all (firmB t.cs) = true → (t.key.take (j + 1)).all (firmB t.cs) = firmB t.cs t.key[j]) := fun j hj h => all_takeA hj h
  have HAN : Hid (∀ j (hj : j < t.key.length), firmB t.cs t.key[j] = false → t.key.all (firmB t.cs) = false) := fun j hj h => all_hit hj h
  have HAE : Hid ((t.key.take t.key.length).all (firmB t.cs) = t.key.all (firmB t.cs)) := (show _ = _ by rw [List.take_length])
  have HBN : Hid (BoxT _ _ _ _) := BoxT.new w t a
  have hb0 : Below w.heap.size w (w.alloc (.cells #[.string t.nm, .slice a.pc t.cs.length a.cc, .slice a.pk t.key.length a.ck, .slice a.px t.ix.length a.cx, .slice a.pr t.rf.length a.cr] 27)) := by go_grown
  clear hV
  generalize keyB t = d at *
  unfold TabP.val at *
  by_cases h0 : t.key.length = 0
  · rw [h0] at HK
    go_enter Tryz.func31, Tryz.ntmps31
    go_wp2
    go_ret
    exact ⟨boolV (by rw [HK.out]; rfl), by go_grown⟩
  · rw [decide_eq_true (by omega : 1 ≤ t.key.length), Bool.true_and] at HK
    have h0' : ¬ (t.key.length : Int) = 0 := by omega
    cases hap : apartB t.cs.length t.key
    · rw [hap] at CA HK
      clear hap
      go_enter Tryz.func31, Tryz.ntmps31
      go_wp2_with fail
      refine (CA.out _ hb0).mono ?_
      rintro e w5 ⟨rfl, hb5⟩
      go_wp2
      go_ret
      exact ⟨boolV (by rw [HK.out]; rfl), hb0.trans (hb5.mono hb0.size)⟩
    · have hin := HIN.out hap
      have HIN' : Hid (∀ j (hj : j < t.key.length), 0 ≤ t.key[j] ∧ t.key[j] < t.cs.length) := hin
      rw [hap, Bool.true_and] at HK
      rw [hap] at CA
      clear hap hin HIN
      go_enter Tryz.func31, Tryz.ntmps31
      go_wp2_with fail
      refine (CA.out _ hb0).mono ?_
      rintro e w5 ⟨rfl, hb5⟩
      have hB5 : BoxT w5 w.heap.size t a := HBN.out.on hb5 (by simp)
      have h05 : Below w.heap.size w w5 := hb0.trans (hb5.mono hb0.size)
      obtain ⟨_, c0, c1, c2, c3, c4⟩ := hB5
      clear CA HBN hb5 hb0
      go_wp2_with fail
      go_loopw [19] (fun k wr => ∃ j : Nat, j ≤ t.key.length ∧ k = .int .i64 (j : Int) ∧ Hid ((t.key.take j).all (firmB t.cs) = true) ∧ wr = w5) (fun k _ => t.key.length - (intOf k).toNat)
      case atStart => exact ⟨0, Nat.zero_le _, by go_num, (show _ = _ by simp), rfl⟩
      case round =>
        obtain ⟨j, hj, rfl, hall, rfl⟩ := hrel
        by_cases hj0 : j = t.key.length
        · subst hj0
          go_wp2
          go_ret
          exact ⟨boolV (by rw [HK.out, ← HAE.out, hall.out]), h05⟩
        · have hj1 : j < t.key.length := by omega
          obtain ⟨b, o, eb, hbB, x0⟩ := HA.out.1 j hj1
          have y0 := (h05.cell (p := ⟨b, o + j, none⟩) hbB).trans x0
          have hin := HIN'.out j hj1
          have hat := HAT.out j hj1 hall.out
          have han := HAN.out j hj1
          generalize t.key[j] = x at *
          obtain ⟨k, rfl⟩ : ∃ k : Nat, x = (k : Int) := ⟨x.toNat, by omega⟩
          have hk1 : k < t.cs.length := by omega
          obtain ⟨b', o', eb', hbB', _, _, z2, _⟩ := HA.out.2 k hk1
          have y2 := (h05.cell (p := ⟨b', o' + k * 7 + 2, none⟩) hbB').trans z2
          have hf : firmB t.cs (k : Int) = !(t.cs[k]).nl := by
            unfold firmB
            rw [Int.toNat_natCast, List.getElem?_eq_getElem hk1]
          rw [hf] at hat han
          rw [eb] at c2
          rw [eb'] at c1
          generalize (t.cs[k]).nl = nl at *
          have k0 : (0 : Int) ≤ (k : Int) := by omega
          have k1 : (k : Int) < (t.cs.length : Int) := by omega
          clear HA HAT HAN HAE HIN' x0 z2 hf hin
          simp only [eb]
          cases nl
          · have HX : Hid (_ = _) := hat
            clear hat han
            go_wp2_with fail
            go_roundw
            case rel => exact ⟨j + 1, hj1, by go_num, (show _ = _ by rw [HX.out]; rfl), by first | rfl | trivial⟩
            case measure => simp [intOf]; omega
          · have HX : Hid (_ = _) := han rfl
            clear hat han
            go_wp2
            go_ret
            exact ⟨boolV (by rw [HK.out, HX.out]), h05⟩

end Go.Proofs.YteadniomgbhecaaGreatDoor

namespace Go.Proofs.YteadniomgbhecaaGreatDoor
open Go.RowKit
set_option maxRecDepth 100000

set_option maxHeartbeats 4000000 in
theorem checkIx_any (t : Tb) (a : TabP) (i : Nat) (hi : i < t.ix.length) (w : World) (hV : TabV w w.heap.size t a) (hn : t.cs.length ≤ 64) (hlen : t.ix.length ≤ 3518437208784) (hok : ∀ x ∈ t.ix, x.nm.size ≤ 140737488351232 ∧ x.cs.length ≤ 17592186043904) :
    Calls Tryz.prog 32 #[a.val t, .int .i64 (i : Int)] w fun e w' => e = .returned (.int .i64 (ixE t.cs.length t.ix i)) ∧ Below w.heap.size w w' := by
  have HA : Hid (RowX _ _ _ _) := hV.ix
  have hcx := hV.hx
  have hc := hok t.ix[i] (List.getElem_mem hi)
  have HC : Hid (ixE t.cs.length t.ix i = ixE1 t.cs.length (t.ix.take i) t.ix[i]) := ixE_at hi
  have HTW : Hid (∀ j (hj : j < i), (t.ix[j].nm.toList == t.ix[i].nm.toList) = true → twinB ((t.ix.take i).map Ix.nm) t.ix[i].nm = true) := by
    intro j hj h
    refine twin_hit (j := j) (by simp; omega) ?_
    simpa using h
  have HTN : Hid (∀ j (hj : j < i), twinB (((t.ix.take i).map Ix.nm).take (j + 1)) t.ix[i].nm = (twinB (((t.ix.take i).map Ix.nm).take j) t.ix[i].nm || (t.ix[j].nm.toList == t.ix[i].nm.toList))) := by
    intro j hj
    have h := twin_take (L := (t.ix.take i).map Ix.nm) (s := t.ix[i].nm) (j := j) (by simp; omega)
    rw [h]
    simp
  have HTE : Hid (((t.ix.take i).map Ix.nm).take i = (t.ix.take i).map Ix.nm) := (show _ = _ from List.take_of_length_le (by simp; omega))
  obtain ⟨b, o, epx, hbB, a0, ⟨q, cq, a1, hq⟩, a2⟩ := hV.ix i hi
  have EPX : Hid (a.px = some ⟨b, o, none⟩ ∧ True) := ⟨epx, trivial⟩
  have CN : Hid (∀ w1, Calls Tryz.prog 28 #[.string t.ix[i].nm] w1 fun e w' => e = .returned (.bool (nameB t.ix[i].nm.data.toList)) ∧ Below w1.heap.size w1 w') := fun w1 => name_any t.ix[i].nm w1 hc.1
  have CA : Hid (∀ w1, Below w.heap.size w w1 → Calls Tryz.prog 58 #[a.val t, .slice q t.ix[i].cs.length cq] w1 fun e w' => e = .returned (.bool (apartB t.cs.length t.ix[i].cs)) ∧ Below w1.heap.size w1 w') := fun w1 hb => apart_any t a t.ix[i].cs q cq w1 (hq.on hb) hn hc.2
  have HL : Hid (listB t.cs.length t.ix[i].cs = (decide (1 ≤ t.ix[i].cs.length) && apartB t.cs.length t.ix[i].cs)) := rfl
  have hcl := hc.2
  clear hV hok hc hq
  generalize ixE t.cs.length t.ix i = d at *
  obtain ⟨x, hx⟩ : ∃ x, t.ix[i] = x := ⟨_, rfl⟩
  simp only [hx] at a0 a1 a2 CN CA HC HTW HTN HL hcl
  clear hx
  have HBN : Hid (BoxT _ _ _ _) := BoxT.new w t a
  have hb0 : Below w.heap.size w ((w.alloc (.cells #[.string t.nm, .slice a.pc t.cs.length a.cc, .slice a.pk t.key.length a.ck, .slice a.px t.ix.length a.cx, .slice a.pr t.rf.length a.cr] 27)).alloc (.cells #[.string x.nm, .slice q x.cs.length cq, .bool x.un] 41)) := by go_grown
  have HB2 : Hid (BoxT ((w.alloc (.cells #[.string t.nm, .slice a.pc t.cs.length a.cc, .slice a.pk t.key.length a.ck, .slice a.px t.ix.length a.cx, .slice a.pr t.rf.length a.cr] 27)).alloc (.cells #[.string x.nm, .slice q x.cs.length cq, .bool x.un] 41)) w.heap.size t a) := HBN.out.on ((Below.refl _ _).alloc (Nat.le_refl _) _) (by simp)
  unfold TabP.val at *
  unfold ixE1 at HC
  clear HBN
  cases hnm : nameB x.nm.data.toList
  · rw [hnm] at CN HC
    simp only [Bool.false_eq_true, if_false] at HC
    clear hnm
    go_enter Tryz.func32, Tryz.ntmps32
    simp only [epx] at *
    go_wp2_with fail
    refine (CN.out _).mono ?_
    rintro e w5 ⟨rfl, hb5⟩
    go_wp2
    go_ret
    exact ⟨errV HC.out.symm, hb0.trans (hb5.mono hb0.size)⟩
  · rw [hnm] at CN HC
    simp only [if_true] at HC
    clear hnm
    go_enter Tryz.func32, Tryz.ntmps32
    simp only [epx]
    rw [epx] at HA HB2 hb0 CA
    go_wp2_with fail
    refine (CN.out _).mono ?_
    rintro e w5 ⟨rfl, hb5⟩
    have hB5 : BoxT w5 w.heap.size t a := HB2.out.on hb5 (by simp; omega)
    have h05 : Below w.heap.size w w5 := hb0.trans (hb5.mono hb0.size)
    have z0 : w5.cell? ⟨w.heap.size + 1, 0, none⟩ = some (.string x.nm) := (hb5.cell (p := ⟨w.heap.size + 1, 0, none⟩) (by simp)).trans (by simp [go_sem])
    have z1 : w5.cell? ⟨w.heap.size + 1, 1, none⟩ = some (.slice q x.cs.length cq) := (hb5.cell (p := ⟨w.heap.size + 1, 1, none⟩) (by simp)).trans (by simp [go_sem])
    have hz5 : w.heap.size + 2 ≤ w5.heap.size := by have := hb5.size; simpa using this
    have H5 : Hid (BoxT w5 w.heap.size t a ∧ Below w.heap.size w w5 ∧ w5.cell? ⟨w.heap.size + 1, 0, none⟩ = some (.string x.nm) ∧ w5.cell? ⟨w.heap.size + 1, 1, none⟩ = some (.slice q x.cs.length cq)) := ⟨hB5, h05, z0, z1⟩
    obtain ⟨_, e0, e1, e2, e3, e4⟩ := hB5
    clear hb5 h05 CN HB2 hb0
    rw [EPX.out.1] at e3
    go_wp2_with fail
    go_loopw [22] (fun k wr => ∃ j : Nat, j ≤ i ∧ k = .int .i64 (j : Int) ∧ Hid (twinB (((t.ix.take i).map Ix.nm).take j) x.nm = false) ∧ Below (w.heap.size + 2) w5 wr) (fun k _ => i - (intOf k).toNat)
    case atStart => exact ⟨0, Nat.zero_le _, by go_num, (show _ = _ by simp [twinB]), Below.refl _ _⟩
    case round =>
      obtain ⟨j, hj, rfl, htw, hn5⟩ := hrel
      have hBw : BoxT wr w.heap.size t a := H5.out.1.on hn5 (by omega)
      have hbw : Below w.heap.size w wr := H5.out.2.1.trans (hn5.mono (by omega))
      have y0 := (hn5.cell (p := ⟨w.heap.size + 1, 0, none⟩) (by simp)).trans z0
      have y1 := (hn5.cell (p := ⟨w.heap.size + 1, 1, none⟩) (by simp)).trans z1
      have hzw : w.heap.size + 2 ≤ wr.heap.size := by have := hn5.size; omega
      have hlw : w.heap.size + 1 < wr.heap.size := hzw
      by_cases hj0 : j = i
      · subst hj0
        rw [HTE.out] at htw
        rw [htw.out] at HC
        simp only [Bool.false_eq_true, if_false] at HC
        obtain ⟨_, c0, c1, c2, c3, c4⟩ := hBw
        rw [EPX.out.1] at c3
        have CA' := CA.out wr hbw
        have CA'' : Hid (Calls Tryz.prog 58 #[.agg #[.string t.nm, .slice a.pc t.cs.length a.cc, .slice a.pk t.key.length a.ck, .slice (some ⟨b, o, none⟩) t.ix.length a.cx, .slice a.pr t.rf.length a.cr], .slice q x.cs.length cq] wr fun e w' => e = .returned (.bool (apartB t.cs.length x.cs)) ∧ Below wr.heap.size wr w') := CA'
        clear CA CA' HTW HTN HTE HA H5 e0 e1 e2 e3 e4 z0 z1
        rw [HL.out] at HC
        clear HL
        generalize apartB t.cs.length x.cs = ap at *
        by_cases h0 : x.cs.length = 0
        · have hd : Hid (d = 33) := by
            rw [h0] at HC
            exact HC
          clear HC
          go_wp2
          go_ret
          exact ⟨errV hd.out.symm, hbw⟩
        · rw [decide_eq_true (by omega : 1 ≤ x.cs.length), Bool.true_and] at HC
          have h0' : ¬ (x.cs.length : Int) = 0 := by omega
          cases ap
          all_goals
            go_wp2_with fail
            refine CA''.out.mono ?_
            rintro e w6 ⟨rfl, hb6⟩
            go_wp2
            go_ret
            exact ⟨errV HC.out.symm, hbw.trans (hb6.mono hbw.size)⟩
      · have hj1 : j < i := by omega
        obtain ⟨b', o', eb, hbB', x0, ⟨q', cq', x1, _⟩, x2⟩ := HA.out j (by omega)
        injection eb with eb
        injection eb with eb1 eb2
        subst eb1 eb2
        have k : ∀ {o : Nat} {v : Option Value}, w.cell? ⟨b, o, none⟩ = v → wr.cell? ⟨b, o, none⟩ = v := fun {o v} hc => (hbw.cell (p := ⟨b, o, none⟩) hbB).trans hc
        have u0 := k x0
        have u1 := k x1
        have u2 := k x2
        have hhit := HTW.out j hj1
        have hnext := HTN.out j hj1
        rw [htw.out, Bool.false_or] at hnext
        clear k x0 x1 x2 hBw
        generalize t.ix[j] = u at *
        obtain ⟨un, ul, uu⟩ := u
        dsimp only at u0 u1 u2 hhit hnext
        cases hsame : (un.toList == x.nm.toList)
        · rw [hsame] at hnext
          have HX : Hid (_ = _) := hnext
          clear hhit hnext
          go_wp2_with fail
          go_roundw
          case rel => exact ⟨j + 1, hj1, by go_num, HX, (hn5.alloc hzw _)⟩
          case measure => simp [intOf]; omega
        · have h31 := hhit hsame
          rw [h31] at HC
          simp only [if_true] at HC
          clear hhit hnext h31
          go_wp2
          go_ret
          exact ⟨errV HC.out.symm, hbw.alloc (by omega) _⟩

set_option maxHeartbeats 4000000 in
theorem checkRf_any (t : Tb) (a : TabP) (r : Rf) (q : Option Addr) (cq : Nat) (w : World) (hq : RowI w w.heap.size q r.cs) (hn : t.cs.length ≤ 64) (hok : r.tb.size ≤ 140737488351232 ∧ r.cs.length ≤ 17592186043904) :
    Calls Tryz.prog 33 #[a.val t, .agg #[.slice q r.cs.length cq, .string r.tb]] w fun e w' => e = .returned (.int .i64 (rfE1 t.cs.length r)) ∧ Below w.heap.size w w' := by
  have CN : Hid (∀ w1, Calls Tryz.prog 28 #[.string r.tb] w1 fun e w' => e = .returned (.bool (nameB r.tb.data.toList)) ∧ Below w1.heap.size w1 w') := fun w1 => name_any r.tb w1 hok.1
  have CA : Hid (∀ w1, Below w.heap.size w w1 → Calls Tryz.prog 58 #[a.val t, .slice q r.cs.length cq] w1 fun e w' => e = .returned (.bool (apartB t.cs.length r.cs)) ∧ Below w1.heap.size w1 w') := fun w1 hb => apart_any t a r.cs q cq w1 (hq.on hb) hn hok.2
  have HC : Hid (rfE1 t.cs.length r = if nameB r.tb.data.toList then (if decide (1 ≤ r.cs.length) && apartB t.cs.length r.cs then 0 else 33) else 30) := rfl
  have hcl := hok.2
  clear hq hok
  generalize rfE1 t.cs.length r = d at *
  have HBN : Hid (BoxT _ _ _ _) := BoxT.new w t a
  have hb0 : Below w.heap.size w ((w.alloc (.cells #[.string t.nm, .slice a.pc t.cs.length a.cc, .slice a.pk t.key.length a.ck, .slice a.px t.ix.length a.cx, .slice a.pr t.rf.length a.cr] 27)).alloc (.cells #[.slice q r.cs.length cq, .string r.tb] 62)) := by go_grown
  have HB2 : Hid (BoxT ((w.alloc (.cells #[.string t.nm, .slice a.pc t.cs.length a.cc, .slice a.pk t.key.length a.ck, .slice a.px t.ix.length a.cx, .slice a.pr t.rf.length a.cr] 27)).alloc (.cells #[.slice q r.cs.length cq, .string r.tb] 62)) w.heap.size t a) := HBN.out.on ((Below.refl _ _).alloc (Nat.le_refl _) _) (by simp)
  unfold TabP.val at *
  clear HBN
  generalize apartB t.cs.length r.cs = ap at *
  cases hnm : nameB r.tb.data.toList
  · rw [hnm] at CN HC
    simp only [Bool.false_eq_true, if_false] at HC
    clear hnm
    go_enter Tryz.func33, Tryz.ntmps33
    go_wp2_with fail
    refine (CN.out _).mono ?_
    rintro e w5 ⟨rfl, hb5⟩
    go_wp2
    go_ret
    exact ⟨errV HC.out.symm, hb0.trans (hb5.mono hb0.size)⟩
  · rw [hnm] at CN HC
    simp only [if_true] at HC
    clear hnm
    go_enter Tryz.func33, Tryz.ntmps33
    go_wp2_with fail
    refine (CN.out _).mono ?_
    rintro e w5 ⟨rfl, hb5⟩
    have hB5 : BoxT w5 w.heap.size t a := HB2.out.on hb5 (by simp; omega)
    have h05 : Below w.heap.size w w5 := hb0.trans (hb5.mono hb0.size)
    have z1 : w5.cell? ⟨w.heap.size + 1, 0, none⟩ = some (.slice q r.cs.length cq) := (hb5.cell (p := ⟨w.heap.size + 1, 0, none⟩) (by simp)).trans (by simp [go_sem])
    obtain ⟨_, e0, e1, e2, e3, e4⟩ := hB5
    have CA' : Hid (Calls _ _ _ _ _) := CA.out w5 h05
    clear hb5 CN HB2 hb0 CA
    by_cases h0 : r.cs.length = 0
    · have hd : Hid (d = 33) := by
        rw [h0] at HC
        exact HC
      clear HC
      go_wp2
      go_ret
      exact ⟨errV hd.out.symm, h05⟩
    · rw [decide_eq_true (by omega : 1 ≤ r.cs.length), Bool.true_and] at HC
      have h0' : ¬ (r.cs.length : Int) = 0 := by omega
      cases ap
      all_goals
        go_wp2_with fail
        refine CA'.out.mono ?_
        rintro e w6 ⟨rfl, hb6⟩
        go_wp2
        go_ret
        exact ⟨errV HC.out.symm, h05.trans (hb6.mono h05.size)⟩

end Go.Proofs.YteadniomgbhecaaGreatDoor
