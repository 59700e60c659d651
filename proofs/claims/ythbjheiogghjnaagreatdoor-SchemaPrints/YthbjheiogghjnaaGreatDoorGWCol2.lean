/- The walk of what a column may be. The walks of keys, indexes, references. -/
import Derived.Test.YthbjheiogghjnaaGreatDoorGFTab
namespace Go.Proofs.YthbjheiogghjnaaGreatDoor
open Go.RowKit
set_option maxRecDepth 100000

/-- a column's box -/
structure BoxC (w : World) (g : Nat) (c : Cl) : Prop where
  hg : g < w.heap.size
  c0 : w.cell? ⟨g, 0, none⟩ = some (.string c.nm)
  c1 : w.cell? ⟨g, 1, none⟩ = some (.int .i64 c.kd)
  c2 : w.cell? ⟨g, 2, none⟩ = some (.bool c.nl)
  c3 : w.cell? ⟨g, 3, none⟩ = some (.int .i64 c.df.k)
  c4 : w.cell? ⟨g, 4, none⟩ = some (.int .i64 c.df.n)
  c5 : w.cell? ⟨g, 5, none⟩ = some (.float .f64 c.df.f)
  c6 : w.cell? ⟨g, 6, none⟩ = some (.string c.df.s)
theorem BoxC.on {w w' : World} {g : Nat} {c : Cl} (h : BoxC w g c) {B : Nat} (hb : Below B w w') (hB : g < B) : BoxC w' g c := by
  have k : ∀ {o : Nat} {v : Option Value}, w.cell? ⟨g, o, none⟩ = v → w'.cell? ⟨g, o, none⟩ = v := fun {o v} hc => (hb.cell (p := ⟨g, o, none⟩) hB).trans hc
  exact ⟨Nat.lt_of_lt_of_le h.hg hb.size, k h.c0, k h.c1, k h.c2, k h.c3, k h.c4, k h.c5, k h.c6⟩
theorem BoxC.new (w : World) (c : Cl) : BoxC (w.alloc (.cells #[.string c.nm, .int .i64 c.kd, .bool c.nl, .int .i64 c.df.k, .int .i64 c.df.n, .float .f64 c.df.f, .string c.df.s] 40)) w.heap.size c := by
  refine ⟨by simp, ?_, ?_, ?_, ?_, ?_, ?_, ?_⟩ <;> simp [go_sem]

set_option maxHeartbeats 2000000 in
theorem checkCol_any (L : List Cl) (p : Option Addr) (cp : Nat) (i : Nat) (hi : i < L.length) (w : World) (hR : RowC w w.heap.size p L) (hlen : L.length ≤ 2513169434845) (hcp : L.length ≤ cp) (hok : ∀ c ∈ L, c.nm.size ≤ 140737488351232 ∧ c.df.ok) (hE : Env w) :
    Calls Tryz.prog 23 #[.slice p L.length cp, .int .i64 (i : Int)] w fun e w' => e = .returned (.int .i64 (colE L i)) ∧ Below w.heap.size w w' := by
  have HA : Hid (RowC _ _ _ _) := hR
  have hc := hok L[i] (List.getElem_mem hi)
  have HC : Hid (colE L i = colE1 (L.take i) L[i]) := colE_at hi
  have HTW : Hid (∀ j (hj : j < i), (L[j].nm.toList == L[i].nm.toList) = true → twinB ((L.take i).map Cl.nm) L[i].nm = true) := by
    intro j hj h
    refine twin_hit (j := j) (by simp; omega) ?_
    simpa using h
  have HTN : Hid (∀ j (hj : j < i), twinB (((L.take i).map Cl.nm).take (j + 1)) L[i].nm = (twinB (((L.take i).map Cl.nm).take j) L[i].nm || (L[j].nm.toList == L[i].nm.toList))) := by
    intro j hj
    have h := twin_take (L := (L.take i).map Cl.nm) (s := L[i].nm) (j := j) (by simp; omega)
    rw [h]
    simp
  have HTE : Hid (((L.take i).map Cl.nm).take i = (L.take i).map Cl.nm) := (show _ = _ from List.take_of_length_le (by simp; omega))
  obtain ⟨b, o, rfl, hbB, a0, a1, a2, a3, a4, a5, a6⟩ := hR i hi
  have CN : Hid (∀ w1, Calls Tryz.prog 21 #[.string L[i].nm] w1 fun e w' => e = .returned (.bool (nameB L[i].nm.data.toList)) ∧ Below w1.heap.size w1 w') := fun w1 => name_any L[i].nm w1 hc.1
  have CD : Hid (∀ w1, Below w.heap.size w w1 → Calls Tryz.prog 42 #[L[i].val] w1 fun e w' => e = .returned (.bool (defB L[i])) ∧ Below w1.heap.size w1 w') := fun w1 hb => default_any L[i] w1 hc.2 (hE.on hb)
  have BN := BoxC.new w L[i]
  have HOK : Hid (∀ c ∈ L, c.nm.size ≤ 140737488351232 ∧ c.df.ok) := hok
  clear hR hok hc hE
  generalize colE L i = d at *
  obtain ⟨c, hcc⟩ : ∃ c, L[i] = c := ⟨_, rfl⟩
  simp only [hcc] at a0 a1 a2 a3 a4 a5 a6 CN CD BN HC HTW HTN
  clear hcc
  unfold Cl.val at CD
  have HBN : Hid (BoxC _ _ _) := BN
  clear BN
  have hsf := run_store_float
  have hb0 : Below w.heap.size w (w.alloc (.cells #[.string c.nm, .int .i64 c.kd, .bool c.nl, .int .i64 c.df.k, .int .i64 c.df.n, .float .f64 c.df.f, .string c.df.s] 40)) := by go_grown
  unfold colE1 at HC
  cases hnm : nameB c.nm.data.toList
  · rw [hnm] at CN HC
    simp only [Bool.false_eq_true, if_false] at HC
    clear hnm
    go_enter Tryz.func23, Tryz.ntmps23
    go_wp2_with fail
    refine (CN.out _).mono ?_
    rintro e w5 ⟨rfl, hb5⟩
    go_wp2
    go_ret
    exact ⟨errV HC.out.symm, hb0.trans (hb5.mono hb0.size)⟩
  · rw [hnm] at CN HC
    simp only [if_true] at HC
    clear hnm
    go_enter Tryz.func23, Tryz.ntmps23
    go_wp2_with fail
    refine (CN.out _).mono ?_
    rintro e w5 ⟨rfl, hb5⟩
    have hB5 : BoxC w5 w.heap.size c := HBN.out.on hb5 (by simp)
    have h05 : Below w.heap.size w w5 := hb0.trans (hb5.mono hb0.size)
    have hz5 : w.heap.size + 1 ≤ w5.heap.size := hB5.hg
    have H5 : Hid (BoxC w5 w.heap.size c ∧ Below w.heap.size w w5) := ⟨hB5, h05⟩
    clear hb5 hB5 h05 CN HBN
    go_wp2_with fail
    go_loopw [20] (fun k wr => ∃ j : Nat, j ≤ i ∧ k = .int .i64 (j : Int) ∧ Hid (twinB (((L.take i).map Cl.nm).take j) c.nm = false) ∧ Below (w.heap.size + 1) w5 wr) (fun k _ => i - (intOf k).toNat)
    case atStart => exact ⟨0, Nat.zero_le _, by go_num, (show _ = _ by simp [twinB]), Below.refl _ _⟩
    case round =>
      obtain ⟨j, hj, rfl, htw, hn⟩ := hrel
      have hBw : BoxC wr w.heap.size c := H5.out.1.on hn (by omega)
      have hbw : Below w.heap.size w wr := H5.out.2.trans (hn.mono (by omega))
      have hzw := hBw.hg
      by_cases hj0 : j = i
      · subst hj0
        rw [HTE.out] at htw
        rw [htw.out] at HC
        simp only [Bool.false_eq_true, if_false] at HC
        obtain ⟨_, c0, c1, c2, c3, c4, c5, c6⟩ := hBw
        have CD' : Hid (Calls Tryz.prog 42 #[.agg #[.string c.nm, .int .i64 c.kd, .bool c.nl, .int .i64 c.df.k, .int .i64 c.df.n, .float .f64 c.df.f, .string c.df.s]] wr fun e w' => e = .returned (.bool (defB c)) ∧ Below wr.heap.size wr w') := CD.out wr hbw
        clear CD HTW HTN HTE HA HOK
        generalize defB c = db at *
        rcases (by omega : c.kd < 1 ∨ 5 < c.kd ∨ (1 ≤ c.kd ∧ c.kd ≤ 5)) with h1 | h1 | ⟨h1, h2⟩
        · have hd : Hid (d = 32) := by
            have e : decide (1 ≤ c.kd) = false := by simp; omega
            rw [e] at HC; exact HC
          clear HC
          go_wp2
          go_ret
          exact ⟨errV hd.out.symm, hbw⟩
        · have hd : Hid (d = 32) := by
            have e : decide (c.kd ≤ 5) = false := by simp; omega
            rw [e, Bool.and_false] at HC; exact HC
          clear HC
          go_wp2
          go_ret
          exact ⟨errV hd.out.symm, hbw⟩
        · rw [decide_eq_true h1, decide_eq_true h2, Bool.true_and, Bool.true_and] at HC
          cases db
          all_goals
            go_wp2_with fail
            refine CD'.out.mono ?_
            rintro e w6 ⟨rfl, hb6⟩
            go_wp2
            go_ret
            exact ⟨errV HC.out.symm, hbw.trans (hb6.mono hbw.size)⟩
      · have hj1 : j < i := by omega
        obtain ⟨b', o', eb, hbB', x0, x1, x2, x3, x4, x5, x6⟩ := HA.out j (by omega)
        injection eb with eb
        injection eb with eb1 eb2
        subst eb1 eb2
        have k : ∀ {o : Nat} {v : Option Value}, w.cell? ⟨b, o, none⟩ = v → wr.cell? ⟨b, o, none⟩ = v := fun {o v} hc => (hbw.cell (p := ⟨b, o, none⟩) hbB).trans hc
        have y0 := k x0
        have y1 := k x1
        have y2 := k x2
        have y3 := k x3
        have y4 := k x4
        have y5 := k x5
        have y6 := k x6
        have c0 := hBw.c0
        have hhit := HTW.out j hj1
        have hnext := HTN.out j hj1
        rw [htw.out, Bool.false_or] at hnext
        clear k x0 x1 x2 x3 x4 x5 x6 hBw
        generalize L[j] = u at *
        obtain ⟨un, uk, ul, ⟨v1, v2, v3, v4⟩⟩ := u
        dsimp only at y0 y1 y2 y3 y4 y5 y6 hhit hnext
        cases hsame : (un.toList == c.nm.toList)
        · rw [hsame] at hnext
          have HX : Hid (_ = _) := hnext
          clear hhit hnext
          go_wp2_with fail
          go_roundw
          case rel => exact ⟨j + 1, hj1, by go_num, HX, (hn.alloc hzw _)⟩
          case measure => simp [intOf]; omega
        · have h31 := hhit hsame
          rw [h31] at HC
          simp only [if_true] at HC
          clear hhit hnext h31
          go_wp2
          go_ret
          exact ⟨errV HC.out.symm, hbw.alloc (by omega) _⟩

end Go.Proofs.YthbjheiogghjnaaGreatDoor

namespace Go.Proofs.YthbjheiogghjnaaGreatDoor
open Go.RowKit
set_option maxRecDepth 100000

/-- a table's box -/
structure BoxT (w : World) (g : Nat) (t : Tb) (a : TabP) : Prop where
  hg : g < w.heap.size
  c0 : w.cell? ⟨g, 0, none⟩ = some (.string t.nm)
  c1 : w.cell? ⟨g, 1, none⟩ = some (.slice a.pc t.cs.length a.cc)
  c2 : w.cell? ⟨g, 2, none⟩ = some (.slice a.pk t.key.length a.ck)
  c3 : w.cell? ⟨g, 3, none⟩ = some (.slice a.px t.ix.length a.cx)
  c4 : w.cell? ⟨g, 4, none⟩ = some (.slice a.pr t.rf.length a.cr)
theorem BoxT.on {w w' : World} {g : Nat} {t : Tb} {a : TabP} (h : BoxT w g t a) {B : Nat} (hb : Below B w w') (hB : g < B) : BoxT w' g t a := by
  have k : ∀ {o : Nat} {v : Option Value}, w.cell? ⟨g, o, none⟩ = v → w'.cell? ⟨g, o, none⟩ = v := fun {o v} hc => (hb.cell (p := ⟨g, o, none⟩) hB).trans hc
  exact ⟨Nat.lt_of_lt_of_le h.hg hb.size, k h.c0, k h.c1, k h.c2, k h.c3, k h.c4⟩
theorem BoxT.new (w : World) (t : Tb) (a : TabP) : BoxT (w.alloc (.cells #[.string t.nm, .slice a.pc t.cs.length a.cc, .slice a.pk t.key.length a.ck, .slice a.px t.ix.length a.cx, .slice a.pr t.rf.length a.cr] 27)) w.heap.size t a := by
  refine ⟨by simp, ?_, ?_, ?_, ?_, ?_⟩ <;> simp [go_sem]

set_option maxHeartbeats 4000000 in
theorem key_any (t : Tb) (a : TabP) (w : World) (hV : TabV w w.heap.size t a) (hn : t.cs.length ≤ 64) (hk : t.key.length ≤ 17592186043904) :
    Calls Tryz.prog 24 #[a.val t] w fun e w' => e = .returned (.bool (keyB t)) ∧ Below w.heap.size w w' := by
  have HA : Hid (RowI w w.heap.size a.pk t.key ∧ RowC w w.heap.size a.pc t.cs) := ⟨hV.key, hV.cs⟩
  have CA : Hid (∀ w1, Below w.heap.size w w1 → Calls Tryz.prog 38 #[a.val t, .slice a.pk t.key.length a.ck] w1 fun e w' => e = .returned (.bool (apartB t.cs.length t.key)) ∧ Below w1.heap.size w1 w') := fun w1 hb => apart_any t a t.key a.pk a.ck w1 (hV.key.on hb) hn hk
  have HK : Hid (keyB t = (decide (1 ≤ t.key.length) && apartB t.cs.length t.key && t.key.all (firmB t.cs))) := rfl
  have HIN : Hid (apartB t.cs.length t.key = true → ∀ j (hj : j < t.key.length), 0 ≤ t.key[j] ∧ t.key[j] < t.cs.length) := by
    intro h j hj
    unfold apartB at h
    simp only [Bool.and_eq_true, List.all_eq_true, decide_eq_true_eq] at h
    exact h.1 _ (List.getElem_mem hj)
  have HAT : Hid (∀ j (hj : j < t.key.length), (t.key.take j).all (firmB t.cs) = true → (t.key.take (j + 1)).all (firmB t.cs) = firmB t.cs t.key[j]) := fun j hj h => all_takeA hj h
  have HAN : Hid (∀ j (hj : j < t.key.length), firmB t.cs t.key[j] = false → t.key.all (firmB t.cs) = false) := fun j hj h => all_hit hj h
  have HAE : Hid ((t.key.take t.key.length).all (firmB t.cs) = t.key.all (firmB t.cs)) := (show _ = _ by rw [List.take_length])
  have HBN : Hid (BoxT _ _ _ _) := BoxT.new w t a
  have hb0 : Below w.heap.size w (w.alloc (.cells #[.string t.nm, .slice a.pc t.cs.length a.cc, .slice a.pk t.key.length a.ck, .slice a.px t.ix.length a.cx, .slice a.pr t.rf.length a.cr] 27)) := by go_grown
  clear hV
  generalize keyB t = d at *
  unfold TabP.val at *
  by_cases h0 : t.key.length = 0
  · rw [h0] at HK
    go_enter Tryz.func24, Tryz.ntmps24
    go_wp2
    go_ret
    exact ⟨boolV (by rw [HK.out]; rfl), by go_grown⟩
  · rw [decide_eq_true (by omega : 1 ≤ t.key.length), Bool.true_and] at HK
    have h0' : ¬ (t.key.length : Int) = 0 := by omega
    cases hap : apartB t.cs.length t.key
    · rw [hap] at CA HK
      clear hap
      go_enter Tryz.func24, Tryz.ntmps24
      go_wp2_with fail
      refine (CA.out _ hb0).mono ?_
      rintro e w5 ⟨rfl, hb5⟩
      go_wp2
      go_ret
      exact ⟨boolV (by rw [HK.out]; rfl), hb0.trans (hb5.mono hb0.size)⟩
    · have hin := HIN.out hap
      have HIN' : Hid (∀ j (hj : j < t.key.length), 0 ≤ t.key[j] ∧ t.key[j] < t.cs.length) := hin
      rw [hap, Bool.true_and] at HK
      rw [hap] at CA
      clear hap hin HIN
      go_enter Tryz.func24, Tryz.ntmps24
      go_wp2_with fail
      refine (CA.out _ hb0).mono ?_
      rintro e w5 ⟨rfl, hb5⟩
      have hB5 : BoxT w5 w.heap.size t a := HBN.out.on hb5 (by simp)
      have h05 : Below w.heap.size w w5 := hb0.trans (hb5.mono hb0.size)
      obtain ⟨_, c0, c1, c2, c3, c4⟩ := hB5
      clear CA HBN hb5 hb0
      go_wp2_with fail
      go_loopw [19] (fun k wr => ∃ j : Nat, j ≤ t.key.length ∧ k = .int .i64 (j : Int) ∧ Hid ((t.key.take j).all (firmB t.cs) = true) ∧ wr = w5) (fun k _ => t.key.length - (intOf k).toNat)
      case atStart => exact ⟨0, Nat.zero_le _, by go_num, (show _ = _ by simp), rfl⟩
      case round =>
        obtain ⟨j, hj, rfl, hall, rfl⟩ := hrel
        by_cases hj0 : j = t.key.length
        · subst hj0
          go_wp2
          go_ret
          exact ⟨boolV (by rw [HK.out, ← HAE.out, hall.out]), h05⟩
        · have hj1 : j < t.key.length := by omega
          obtain ⟨b, o, eb, hbB, x0⟩ := HA.out.1 j hj1
          have y0 := (h05.cell (p := ⟨b, o + j, none⟩) hbB).trans x0
          have hin := HIN'.out j hj1
          have hat := HAT.out j hj1 hall.out
          have han := HAN.out j hj1
          generalize t.key[j] = x at *
          obtain ⟨k, rfl⟩ : ∃ k : Nat, x = (k : Int) := ⟨x.toNat, by omega⟩
          have hk1 : k < t.cs.length := by omega
          obtain ⟨b', o', eb', hbB', _, _, z2, _⟩ := HA.out.2 k hk1
          have y2 := (h05.cell (p := ⟨b', o' + k * 7 + 2, none⟩) hbB').trans z2
          have hf : firmB t.cs (k : Int) = !(t.cs[k]).nl := by
            unfold firmB
            rw [Int.toNat_natCast, List.getElem?_eq_getElem hk1]
          rw [hf] at hat han
          rw [eb] at c2
          rw [eb'] at c1
          generalize (t.cs[k]).nl = nl at *
          have k0 : (0 : Int) ≤ (k : Int) := by omega
          have k1 : (k : Int) < (t.cs.length : Int) := by omega
          clear HA HAT HAN HAE HIN' x0 z2 hf hin
          simp only [eb]
          cases nl
          · have HX : Hid (_ = _) := hat
            clear hat han
            go_wp2_with fail
            go_roundw
            case rel => exact ⟨j + 1, hj1, by go_num, (show _ = _ by rw [HX.out]; rfl), by first | rfl | trivial⟩
            case measure => simp [intOf]; omega
          · have HX : Hid (_ = _) := han rfl
            clear hat han
            go_wp2
            go_ret
            exact ⟨boolV (by rw [HK.out, HX.out]), h05⟩

end Go.Proofs.YthbjheiogghjnaaGreatDoor
