/- The walks of Column, on both sides. The walks of Admits, on both sides. -/
import Derived.Test.YteadniomgbhecaaGreatDoorGWOwnV
namespace Go.Proofs.YteadniomgbhecaaGreatDoor
open Go.RowKit
set_option maxRecDepth 100000

/-- a column's number, by its name -/
def colF (nm : ByteArray) : List Cl → Nat → Int × Int
  | [], _ => (0, 5)
  | c :: cs, k => if (c.nm.toList == nm.toList) = true then ((k : Int), 0) else colF nm cs (k + 1)
theorem colF_hit {nm : ByteArray} {cs : List Cl} {j : Nat} (hj : j < cs.length) (h : (cs[j].nm.toList == nm.toList) = true) : colF nm (cs.drop j) j = ((j : Int), 0) := by
  rw [List.drop_eq_getElem_cons hj, colF, if_pos h]
theorem colF_step {nm : ByteArray} {cs : List Cl} {j : Nat} (hj : j < cs.length) (h : (cs[j].nm.toList == nm.toList) = false) : colF nm (cs.drop j) j = colF nm (cs.drop (j + 1)) (j + 1) := by
  rw [List.drop_eq_getElem_cons hj, colF, if_neg (by rw [h]; simp)]
theorem colF_end {nm : ByteArray} {cs : List Cl} : colF nm (cs.drop cs.length) cs.length = (0, 5) := by
  rw [List.drop_length, colF]
theorem tupV {a b c d : Int} (h : (a, b) = (c, d)) : Ending.returned (.tuple #[.int .i64 a, .int .i64 b]) = Ending.returned (.tuple #[.int .i64 c, .int .i64 d]) := by
  injection h with h1 h2
  rw [h1, h2]





end Go.Proofs.YteadniomgbhecaaGreatDoor

namespace Go.Proofs.YteadniomgbhecaaGreatDoor
open Go.RowKit
set_option maxRecDepth 100000

/-- why a row may not be one of a table -/
def admS (t : Tb) (l : List Vl) : Int := if checkS t = 0 then (if l.length = t.cs.length then firstE (admsE t.cs l) t.cs.length else 1) else checkS t
theorem checkS_counts (t : Tb) (h : checkS t = 0) : 1 ≤ t.cs.length ∧ t.cs.length ≤ 64 := by
  by_cases h1 : nameB t.nm.data.toList = true
  · by_cases h2 : countsB t = true
    · unfold countsB at h2
      simp only [Bool.and_eq_true, decide_eq_true_eq] at h2
      omega
    · unfold checkS at h
      rw [if_pos h1, if_neg h2] at h
      omega
  · unfold checkS at h
    rw [if_neg h1] at h
    omega

set_option maxHeartbeats 4000000 in
theorem admits_any (t : Tb) (a : TabP) (l : List Vl) (p : Option Addr) (cl : Nat) (w : World) (hV : TabV w w.heap.size t a) (hok : t.ok) (hR : RowV w w.heap.size p l) (hvo : ∀ v ∈ l, v.ok) (_hll : l.length ≤ 17592186043904) (hE : Env w) :
    Calls Tryz.prog 9 #[a.val t, .slice p l.length cl] w fun e w' => e = .returned (.int .i64 (admS t l)) ∧ Below w.heap.size w w' := by
  obtain ⟨pc, cc, pk, ck, px, cx, pr, cr⟩ := a
  have CC : Hid (∀ w1, Below w.heap.size w w1 → Calls Tryz.prog 18 #[.agg #[.string t.nm, .slice pc t.cs.length cc, .slice pk t.key.length ck, .slice px t.ix.length cx, .slice pr t.rf.length cr]] w1 fun e w' => e = .returned (.int .i64 (checkS t)) ∧ Below w1.heap.size w1 w') := fun w1 hb => check_anyT t ⟨pc, cc, pk, ck, px, cx, pr, cr⟩ w1 (hV.on hb) hok (hE.on hb)
  have CA : Hid (l.length = t.cs.length → t.cs.length ≤ 64 → ∀ w1, Below w.heap.size w w1 → Calls Tryz.prog 19 #[.agg #[.string t.nm, .slice pc t.cs.length cc, .slice pk t.key.length ck, .slice px t.ix.length cx, .slice pr t.rf.length cr], .slice p l.length cl] w1 fun e w' => e = .returned (.int .i64 (firstE (admsE t.cs l) t.cs.length)) ∧ Below w1.heap.size w1 w') := fun h1 h2 w1 hb => admVs_any t ⟨pc, cc, pk, ck, px, cx, pr, cr⟩ l p cl w1 (hV.on hb) ((hR.keep hb).mono hb.size) h1 h2 hvo (hE.on hb)
  have HB : Hid (BoxT _ _ _ _) := BoxT.new w t ⟨pc, cc, pk, ck, px, cx, pr, cr⟩
  have hb0 : Below w.heap.size w (w.alloc (.cells #[.string t.nm, .slice pc t.cs.length cc, .slice pk t.key.length ck, .slice px t.ix.length cx, .slice pr t.rf.length cr] 27)) := by go_grown
  have HF : Hid (admS t l = if checkS t = 0 then (if l.length = t.cs.length then firstE (admsE t.cs l) t.cs.length else 1) else checkS t) := rfl
  have HCN : Hid (checkS t = 0 → 1 ≤ t.cs.length ∧ t.cs.length ≤ 64) := checkS_counts t
  have hcl := hok.cs
  clear hV hok hR hvo hE
  generalize admS t l = d at *
  unfold TabP.val
  dsimp only
  by_cases hch : checkS t = 0
  · have hcn := HCN.out hch
    rw [hch] at CC HF
    rw [if_pos rfl] at HF
    clear hch HCN
    go_enter Tryz.func9, Tryz.ntmps9
    go_wp2_with fail
    refine (CC.out _ hb0).mono ?_
    rintro e w1 ⟨rfl, hb1⟩
    have h01 : Below w.heap.size w w1 := hb0.trans (hb1.mono hb0.size)
    have HB1 : Hid (BoxT w1 w.heap.size t ⟨pc, cc, pk, ck, px, cx, pr, cr⟩) := HB.out.on hb1 (by simp)
    obtain ⟨hz1, e0, e1, e2, e3, e4⟩ := HB1.out
    dsimp only at e0 e1 e2 e3 e4
    clear CC hb1 hb0 HB
    by_cases hl : l.length = t.cs.length
    · rw [if_pos hl] at HF
      have hl' : ((l.length : Int) != (t.cs.length : Int)) = false := by rw [hl]; simp
      have CA2 : Hid (∀ w1, Below w.heap.size w w1 → Calls Tryz.prog 19 #[.agg #[.string t.nm, .slice pc t.cs.length cc, .slice pk t.key.length ck, .slice px t.ix.length cx, .slice pr t.rf.length cr], .slice p l.length cl] w1 fun e w' => e = .returned (.int .i64 (firstE (admsE t.cs l) t.cs.length)) ∧ Below w1.heap.size w1 w') := CA.out hl hcn.2
      clear hl CA
      go_wp2_with fail
      refine (CA2.out _ h01).mono ?_
      rintro e w2 ⟨rfl, hb2⟩
      go_wp2
      go_ret
      exact ⟨errV HF.out.symm, h01.trans (hb2.mono h01.size)⟩
    · rw [if_neg hl] at HF
      have hl' : ((l.length : Int) != (t.cs.length : Int)) = true := by simp; omega
      clear hl CA
      go_wp2
      go_ret
      exact ⟨errV HF.out.symm, h01⟩
  · rw [if_neg hch] at HF
    generalize checkS t = ch at *
    go_enter Tryz.func9, Tryz.ntmps9
    go_wp2_with fail
    refine (CC.out _ hb0).mono ?_
    rintro e w1 ⟨rfl, hb1⟩
    go_wp2
    go_ret
    exact ⟨errV HF.out.symm, hb0.trans (hb1.mono hb0.size)⟩

set_option maxHeartbeats 4000000 in
theorem radmits_any (t : Tb) (a : TabP) (l : List Vl) (p : Option Addr) (cl : Nat) (w : World) (hV : TabV w w.heap.size t a) (hok : t.ok) (hR : RowV w w.heap.size p l) (hvo : ∀ v ∈ l, v.ok) (hll : l.length ≤ 17592186043904) (hE : Env w) :
    Calls Tryz.prog 12 #[a.val t, .slice p l.length cl] w fun e w' => e = .returned (.int .i64 (admS t l)) ∧ Below w.heap.size w w' := by
  obtain ⟨pc, cc, pk, ck, px, cx, pr, cr⟩ := a
  have CC : Hid (∀ w1, Below w.heap.size w w1 → Calls Tryz.prog 22 #[.agg #[.string t.nm, .slice pc t.cs.length cc, .slice pk t.key.length ck, .slice px t.ix.length cx, .slice pr t.rf.length cr]] w1 fun e w' => e = .returned (.int .i64 (checkS t)) ∧ Below w1.heap.size w1 w') := fun w1 hb => rcheck_anyT t ⟨pc, cc, pk, ck, px, cx, pr, cr⟩ w1 (hV.on hb) hok (hE.on hb)
  have HB : Hid (BoxT _ _ _ _) := BoxT.new w t ⟨pc, cc, pk, ck, px, cx, pr, cr⟩
  have hb0 : Below w.heap.size w (w.alloc (.cells #[.string t.nm, .slice pc t.cs.length cc, .slice pk t.key.length ck, .slice px t.ix.length cx, .slice pr t.rf.length cr] 27)) := by go_grown
  have HF : Hid (admS t l = if checkS t = 0 then (if l.length = t.cs.length then firstE (admsE t.cs l) t.cs.length else 1) else checkS t) := rfl
  have HCN : Hid (checkS t = 0 → 1 ≤ t.cs.length ∧ t.cs.length ≤ 64) := checkS_counts t
  have HV : Hid (RowC w w.heap.size pc t.cs ∧ RowV w w.heap.size p l ∧ (∀ v ∈ l, v.ok) ∧ Env w) := ⟨hV.cs, hR, hvo, hE⟩
  have hcl := hok.cs
  clear hV hok hR hvo hE
  generalize admS t l = d at *
  unfold TabP.val
  dsimp only
  by_cases hch : checkS t = 0
  · have hcn := HCN.out hch
    rw [hch] at CC HF
    rw [if_pos rfl] at HF
    clear hch HCN
    go_enter Tryz.func12, Tryz.ntmps12
    go_wp2_with fail
    refine (CC.out _ hb0).mono ?_
    rintro e w1 ⟨rfl, hb1⟩
    have h01 : Below w.heap.size w w1 := hb0.trans (hb1.mono hb0.size)
    have HB1 : Hid (BoxT w1 w.heap.size t ⟨pc, cc, pk, ck, px, cx, pr, cr⟩) := HB.out.on hb1 (by simp)
    obtain ⟨hz1, e0, e1, e2, e3, e4⟩ := HB1.out
    dsimp only at e0 e1 e2 e3 e4
    clear CC hb1 hb0 HB
    by_cases hl : l.length = t.cs.length
    · rw [if_pos hl] at HF
      have hl' : ((l.length : Int) != (t.cs.length : Int)) = false := by rw [hl]; simp
      have HL : Hid (l.length = t.cs.length ∧ True) := ⟨hl, trivial⟩
      clear hl
      go_wp2_with fail
      go_loopw [6] (fun k wr => ∃ j : Nat, j ≤ l.length ∧ k = .int .i64 (j : Int) ∧ Hid (firstE (admsE t.cs l) j = 0) ∧ Hid (Below w1.heap.size w1 wr)) (fun k _ => l.length - (intOf k).toNat)
      case atStart => exact ⟨0, Nat.zero_le _, by go_num, rfl, Below.refl _ _⟩
      case round =>
        obtain ⟨j, hj, rfl, hfz, hn1⟩ := hrel
        have hbw : Below w.heap.size w wr := h01.trans (hn1.out.mono h01.size)
        have HBr : Hid (BoxT wr w.heap.size t ⟨pc, cc, pk, ck, px, cx, pr, cr⟩) := HB1.out.on hn1.out hz1
        clear e0 e1 e2 e3 e4
        by_cases hj0 : j = l.length
        · subst hj0
          rw [HL.out.1] at hfz
          go_wp2
          go_ret
          exact ⟨errV (hfz.out.symm.trans HF.out.symm), hbw⟩
        · have hj2 : j < l.length := by omega
          have hj1 : j < t.cs.length := by have := HL.out.1; omega
          obtain ⟨b, o, rfl, hbB, a0, a1, a2, -⟩ := HV.out.1 j hj1
          obtain ⟨b', o', rfl, hbB', r0, r1, r2, r3⟩ := HV.out.2.1 j hj2
          have s0 := (hbw.cell (p := ⟨b', _, none⟩) hbB').trans r0
          have s1 := (hbw.cell (p := ⟨b', _, none⟩) hbB').trans r1
          have s2 := (hbw.cell (p := ⟨b', _, none⟩) hbB').trans r2
          have s3 := (hbw.cell (p := ⟨b', _, none⟩) hbB').trans r3
          have CV : Hid (∀ w1, Below w.heap.size w w1 → Calls Tryz.prog 23 #[.agg #[.int .i64 l[j].k, .int .i64 l[j].n, .float .f64 l[j].f, .string l[j].s]] w1 fun e w' => e = .returned (.int .i64 l[j].chk) ∧ Below w1.heap.size w1 w') := fun w1 hb => rcheck_ok l[j] w1 (HV.out.2.2.1 _ (List.getElem_mem hj2)) (HV.out.2.2.2.on hb).hg (HV.out.2.2.2.on hb).hT
          have HX : Hid (firstE (admsE t.cs l) (j + 1) = admsE t.cs l j) := firstE_succ hfz.out
          have HY : Hid (¬ admsE t.cs l j = 0 → firstE (admsE t.cs l) t.cs.length = admsE t.cs l j) := fun h => firstE_end hfz.out hj1 h
          have HA : Hid (admsE t.cs l j = if l[j].chk = 0 then (if l[j].k = 0 then (if t.cs[j].nl then 0 else 35) else (if l[j].k = t.cs[j].kd then 0 else 32)) else l[j].chk) := admsE_at hj1 hj2
          have hjl : (j : Int) < (t.cs.length : Int) := by omega
          generalize admsE t.cs l j = ce at *
          generalize t.cs[j] = c at *
          generalize l[j] = v at *
          generalize v.chk = ch at *
          obtain ⟨vk, vn, vf, vs⟩ := v
          obtain ⟨nm, kd, nl, ⟨dk, dn, df, ds⟩⟩ := c
          dsimp only at a0 a1 a2 s0 s1 s2 s3 CV HA
          clear r0 r1 r2 r3 hfz
          go_wp2_with fail
          refine (CV.out _ hbw).mono ?_
          rintro e w2 ⟨rfl, hb2⟩
          have h02 : Below w.heap.size w w2 := hbw.trans (hb2.mono hbw.size)
          have hn2 : Hid (Below w1.heap.size w1 w2) := hn1.out.trans (hb2.mono hn1.out.size)
          have HB2 : Hid (BoxT w2 w.heap.size t ⟨some ⟨b, o, none⟩, cc, pk, ck, px, cx, pr, cr⟩) := HBr.out.on hb2 HBr.out.hg
          obtain ⟨hz2, e0, e1, e2, e3, e4⟩ := HB2.out
          dsimp only at e0 e1 e2 e3 e4
          have t0 := (h02.cell (p := ⟨b', _, none⟩) hbB').trans ((hbw.cell (p := ⟨b', _, none⟩) hbB').symm.trans s0)
          have u1 := (h02.cell (p := ⟨b, _, none⟩) hbB).trans a1
          have u2 := (h02.cell (p := ⟨b, _, none⟩) hbB).trans a2
          clear s0 s1 s2 s3 a0 a1 a2 hb2 CV
          by_cases hch : ch = 0
          · subst hch
            rw [if_pos rfl] at HA
            by_cases hk : vk = 0
            · subst hk
              rw [if_pos rfl] at HA
              cases nl
              · have hd : Hid (firstE (admsE t.cs l) t.cs.length = 35) := by
                  have h1 : ce = 35 := HA.out
                  have := HY.out (by rw [h1]; decide)
                  rw [h1] at this
                  exact this
                clear HA HY HX
                go_wp2
                go_ret
                exact ⟨errV (hd.out.symm.trans HF.out.symm), h02⟩
              · have hx : Hid (firstE (admsE t.cs l) (j + 1) = 0) := by
                  have h1 : ce = 0 := HA.out
                  have := HX.out
                  rw [h1] at this
                  exact this
                clear HA HY HX
                go_wp2_with fail
                go_roundw
                case rel => exact ⟨j + 1, hj2, by go_num, hx, hn2⟩
                case measure => simp [intOf]; omega
            · rw [if_neg hk] at HA
              have hk' : (vk == 0) = false := by simpa using hk
              by_cases hkd : vk = kd
              · rw [if_pos hkd] at HA
                have hkd' : (vk != kd) = false := by rw [hkd]; simp
                have hx : Hid (firstE (admsE t.cs l) (j + 1) = 0) := by
                  have h1 : ce = 0 := HA.out
                  have := HX.out
                  rw [h1] at this
                  exact this
                clear HA HY HX hkd
                go_wp2_with fail
                go_quiet (fail)
                go_wp2_with fail
                go_roundw
                case rel => exact ⟨j + 1, hj2, by go_num, hx, hn2.out.trans ((below_drewN _ _).mono hn2.out.size)⟩
                case measure => simp [intOf]; omega
              · rw [if_neg hkd] at HA
                have hkd' : (vk != kd) = true := by simpa using hkd
                have hd : Hid (firstE (admsE t.cs l) t.cs.length = 32) := by
                  have h1 : ce = 32 := HA.out
                  have := HY.out (by rw [h1]; decide)
                  rw [h1] at this
                  exact this
                clear HA HY HX hkd
                go_wp2_with fail
                go_quiet (fail)
                go_wp2
                go_ret
                exact ⟨errV (hd.out.symm.trans HF.out.symm), h02.trans ((below_drewN _ _).mono h02.size)⟩
          · rw [if_neg hch] at HA
            have hch' : (ch != 0) = true := by simpa using hch
            have hd : Hid (firstE (admsE t.cs l) t.cs.length = ch) := by
              have h1 : ce = ch := HA.out
              have := HY.out (by rw [h1]; exact hch)
              rw [h1] at this
              exact this
            clear HA HY HX hch
            go_wp2
            go_ret
            exact ⟨errV (hd.out.symm.trans HF.out.symm), h02⟩
    · rw [if_neg hl] at HF
      have hl' : ((l.length : Int) != (t.cs.length : Int)) = true := by simp; omega
      clear hl
      go_wp2
      go_ret
      exact ⟨errV HF.out.symm, h01⟩
  · rw [if_neg hch] at HF
    generalize checkS t = ch at *
    go_enter Tryz.func12, Tryz.ntmps12
    go_wp2_with fail
    refine (CC.out _ hb0).mono ?_
    rintro e w1 ⟨rfl, hb1⟩
    go_wp2
    go_ret
    exact ⟨errV HF.out.symm, hb0.trans (hb1.mono hb0.size)⟩

end Go.Proofs.YteadniomgbhecaaGreatDoor
