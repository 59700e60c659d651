/- The walk of the document's Fill. -/
import Derived.Test.YtobgdjjicgiefaaGreatDoorWFill
import Derived.Test.YtobgdjjicgiefaaGreatDoorWOwn1
namespace Go.Proofs.YtobgdjjicgiefaaGreatDoor
open Go.RowKit
set_option maxRecDepth 100000

/-- what stands at column i behind the first k values -/
def atK (d : Vl) (cols : List Int) (vals : List Vl) (i k : Nat) : Vl := ((cols.zip vals).take k).foldl (fun v p => if p.1 = (i : Int) then p.2 else v) d
theorem atK_succ {d : Vl} {cols : List Int} {vals : List Vl} {i k : Nat} (h1 : k < cols.length) (h2 : k < vals.length) : atK d cols vals i (k + 1) = if cols[k] = (i : Int) then vals[k] else atK d cols vals i k := by
  unfold atK
  have hk : k < (cols.zip vals).length := by simp; omega
  rw [← List.take_append_getElem hk, List.foldl_append]
  simp
theorem fillK_at {cs : List Cl} {cols : List Int} {vals : List Vl} (hin : ∀ j (hj : j < cols.length), 0 ≤ cols[j]) (hl : cols.length = vals.length) {i : Nat} (hi : i < cs.length) : ∀ k, k ≤ cols.length → (fillK cs cols vals k)[i]'(by rw [fillK_len]; exact hi) = atK cs[i].df cols vals i k
  | 0, _ => by simp [fillK, atK]
  | k + 1, hk => by
    have ih := fillK_at hin hl hi k (by omega)
    have h1 : k < cols.length := by omega
    have h2 : k < vals.length := by omega
    rw [atK_succ h1 h2]
    have e := fillK_succ (cs := cs) h1 h2
    have h0 := hin k h1
    simp only [e, List.getElem_set]
    by_cases hc : cols[k] = (i : Int)
    · rw [if_pos (by omega), if_pos hc]
    · rw [if_neg (by omega), if_neg hc]
      exact ih
theorem fillR_at {cs : List Cl} {cols : List Int} {vals : List Vl} (hin : ∀ j (hj : j < cols.length), 0 ≤ cols[j]) (hl : cols.length = vals.length) {i : Nat} (hi : i < cs.length) : (fillR cs cols vals)[i]'(by unfold fillR; rw [fillK_len]; exact hi) = atK cs[i].df cols vals i cols.length := fillK_at hin hl hi _ (Nat.le_refl _)
theorem ownV_set {w : World} {B g o : Nat} {v u : Value} {L : List Vl} (h : OwnV w B v L) (hne : v.ownBlock ≠ some g) : OwnV (w.setCell ⟨g, o, none⟩ u) B v L := by
  refine World.ownsRow.kept (row := some g) h ⟨rfl, rfl, rfl, by simp, fun k _ hk => heap_setCell_other w ⟨g, o, none⟩ k u (fun e => hk (by simp [e]))⟩ ?_
  exact .inr hne
theorem apart_ge {n : Nat} {l : List Int} (h : apartB n l = true) : ∀ j (hj : j < l.length), 0 ≤ l[j] := fun _ hj => (apart_in h hj).1

set_option maxHeartbeats 8000000 in
theorem rfill_any (t : Tb) (a : TabP) (cols : List Int) (pc' : Option Addr) (cc' : Nat) (vals : List Vl) (pv : Option Addr) (cv : Nat) (w : World) (hV : TabV w w.heap.size t a) (hok : t.ok) (hC : RowI w w.heap.size pc' cols) (hW : RowV w w.heap.size pv vals) (hcl : cols.length ≤ 17592186043904) (_hvl : vals.length ≤ 17592186043904) (hvo : ∀ v ∈ vals, v.ok) (hE : Env w) :
    Calls Tryz.prog 21 #[a.val t, .slice pc' cols.length cc', .slice pv vals.length cv] w fun e w' => ∃ v, e = .returned (.tuple #[v, .int .i64 (fillE t cols vals)]) ∧ OwnV w' w.heap.size v (fillO t cols vals) ∧ Below w.heap.size w w' := by
  obtain ⟨pc, cc, pk, ck, px, cx, pr, cr⟩ := a
  have CC : Hid (∀ w1, Below w.heap.size w w1 → Calls Tryz.prog 14 #[.agg #[.string t.nm, .slice pc t.cs.length cc, .slice pk t.key.length ck, .slice px t.ix.length cx, .slice pr t.rf.length cr]] w1 fun e w' => e = .returned (.int .i64 (checkS t)) ∧ Below w1.heap.size w1 w') := fun w1 hb => rcheck_anyT t ⟨pc, cc, pk, ck, px, cx, pr, cr⟩ w1 (hV.on hb) hok (hE.on hb)
  have CAD : Hid (∀ (p : Option Addr) (c : Nat) (w1 : World), Below w.heap.size w w1 → RowV w1 w1.heap.size p (fillR t.cs cols vals) → Calls Tryz.prog 19 #[.agg #[.string t.nm, .slice pc t.cs.length cc, .slice pk t.key.length ck, .slice px t.ix.length cx, .slice pr t.rf.length cr], .slice p t.cs.length c] w1 fun e w' => e = .returned (.int .i64 (admS t (fillR t.cs cols vals))) ∧ Below w1.heap.size w1 w') := fun p c w1 hb h => by
    have h2 := radmits_any t ⟨pc, cc, pk, ck, px, cx, pr, cr⟩ (fillR t.cs cols vals) p c w1 (hV.on hb) hok h (fillR_ok (fun c hc => (hok.cn c hc).2) hvo) (by have := hok.cs; rw [show (fillR t.cs cols vals).length = t.cs.length from fillK_len _ _ _ _]; omega) (hE.on hb)
    rw [show (fillR t.cs cols vals).length = t.cs.length from fillK_len _ _ _ _] at h2
    exact h2
  have HB : Hid (BoxT _ _ _ _) := BoxT.new w t ⟨pc, cc, pk, ck, px, cx, pr, cr⟩
  have hb0 : Below w.heap.size w (w.alloc (.cells #[.string t.nm, .slice pc t.cs.length cc, .slice pk t.key.length ck, .slice px t.ix.length cx, .slice pr t.rf.length cr] 29)) := by go_grown
  have HF : Hid (fillE t cols vals = if checkS t = 0 then (if cols.length = vals.length ∧ apartB t.cs.length cols = true then firstE (admsE t.cs (fillR t.cs cols vals)) t.cs.length else 1) else checkS t) := rfl
  have HV : Hid (RowC w w.heap.size pc t.cs ∧ RowI w w.heap.size pc' cols ∧ RowV w w.heap.size pv vals) := ⟨hV.cs, hC, hW⟩
  have HCN : Hid (checkS t = 0 → 1 ≤ t.cs.length ∧ t.cs.length ≤ 64) := checkS_counts t
  have HO : Hid (fillO t cols vals = if fillE t cols vals = 0 then fillR t.cs cols vals else []) := rfl
  have CA : Hid (t.cs.length ≤ 64 → ∀ w1, Below w.heap.size w w1 → Calls Tryz.prog 40 #[.agg #[.string t.nm, .slice pc t.cs.length cc, .slice pk t.key.length ck, .slice px t.ix.length cx, .slice pr t.rf.length cr], .slice pc' cols.length cc'] w1 fun e w' => e = .returned (.bool (listB t.cs.length cols)) ∧ Below w1.heap.size w1 w') := fun hn w1 hb => rsome_any t ⟨pc, cc, pk, ck, px, cx, pr, cr⟩ cols pc' cc' w1 (hC.on hb) hn hcl
  have HAS : Hid (checkS t = 0 → admS t (fillR t.cs cols vals) = firstE (admsE t.cs (fillR t.cs cols vals)) t.cs.length) := fun h => by
    unfold admS
    rw [if_pos h, if_pos (show (fillR t.cs cols vals).length = t.cs.length from fillK_len _ _ _ _)]
  clear hV hok hC hW hvo hE
  generalize fillO t cols vals = R at *
  generalize fillE t cols vals = d at *
  unfold TabP.val
  dsimp only
  have hsf := run_store_float
  by_cases hch : checkS t = 0
  · have hcn := HCN.out hch
    have CA2 : Hid (∀ w1, Below w.heap.size w w1 → Calls Tryz.prog 40 #[.agg #[.string t.nm, .slice pc t.cs.length cc, .slice pk t.key.length ck, .slice px t.ix.length cx, .slice pr t.rf.length cr], .slice pc' cols.length cc'] w1 fun e w' => e = .returned (.bool (listB t.cs.length cols)) ∧ Below w1.heap.size w1 w') := CA.out hcn.2
    have hAS := HAS.out hch
    rw [hAS] at CAD
    rw [hch] at CC HF
    rw [if_pos rfl] at HF
    clear hch HCN CA HAS hAS
    go_enter Tryz.func21, Tryz.ntmps21
    go_wp2_with fail
    refine (CC.out _ hb0).mono ?_
    rintro e w1 ⟨rfl, hb1⟩
    have h01 : Below w.heap.size w w1 := hb0.trans (hb1.mono hb0.size)
    have HB1 : Hid (BoxT w1 w.heap.size t ⟨pc, cc, pk, ck, px, cx, pr, cr⟩) := HB.out.on hb1 (by simp)
    clear CC hb1 hb0 HB
    by_cases hl : cols.length = vals.length
    · have hl' : ((cols.length : Int) != (vals.length : Int)) = false := by rw [hl]; simp
      have HL : Hid (cols.length = vals.length ∧ True) := ⟨hl, trivial⟩
      by_cases hap : apartB t.cs.length cols = true
      · rw [if_pos ⟨hl, hap⟩] at HF
        rw [← HF.out] at CAD
        have HIN : Hid (∀ j (hj : j < cols.length), 0 ≤ cols[j]) := apart_ge hap
        have HAP : Hid (listB t.cs.length cols = decide (1 ≤ cols.length)) := by
          show _ = _
          unfold listB
          rw [hap, Bool.and_true]
        clear HF hl hap
        obtain ⟨hz1, e0, e1, e2, e3, e4⟩ := HB1.out
        dsimp only at e0 e1 e2 e3 e4
        rcases Nat.eq_zero_or_pos cols.length with h0 | h0
        focus
          have hgt : ¬ 0 < cols.length := by omega
          clear h0 HAP CA2
          go_wp2_with fail
          clear e0 e1 e2 e3 e4 hgt
          have h02 := h01
          have HB2 := HB1
          clear HB1 h01 hz1
          generalize w1 = w2 at *
        rotate_left
        focus
          have hgt : 0 < cols.length := h0
          have hlb : listB t.cs.length cols = true := by rw [HAP.out, decide_eq_true_eq]; exact h0
          rw [hlb] at CA2
          clear h0 HAP hlb
          go_wp2_with fail
          refine (CA2.out _ h01).mono ?_
          rintro e w2 ⟨rfl, hb2⟩
          have h02 : Below w.heap.size w w2 := h01.trans (hb2.mono h01.size)
          have HB2 : Hid (BoxT w2 w.heap.size t ⟨pc, cc, pk, ck, px, cx, pr, cr⟩) := HB1.out.on hb2 hz1
          clear e0 e1 e2 e3 e4
          go_wp2_with fail
          clear CA2 hgt HB1 h01 hz1 hb2
        all_goals
          have hO3 : Hid (OwnV (w2.alloc (.cells #[] 55)) w2.heap.size (.slice (some ⟨w2.heap.size, 0, none⟩) 0 0) ((fillR t.cs cols vals).take 0)) := World.ownsRow_lit w2 #[] 0 (Nat.le_refl _) (Nat.zero_le _) rfl
          have h23 : Below w2.heap.size w2 (w2.alloc (.cells #[] 55)) := by go_grown
          have h03 : Below w.heap.size w (w2.alloc (.cells #[] 55)) := h02.trans (h23.mono h02.size)
          have hgw : w.heap.size < w2.heap.size := HB2.out.hg
          have HB3 : Hid (BoxT (w2.alloc (.cells #[] 55)) w.heap.size t ⟨pc, cc, pk, ck, px, cx, pr, cr⟩) := HB2.out.on h23 hgw
          have hz3 : w2.heap.size ≤ (w2.alloc (.cells #[] 55)).heap.size := h23.size
          clear HB2 h02 h23
          generalize w2.alloc (.cells #[] 55) = w3 at *
          generalize w2.heap.size = B2 at *
          go_loopw [9, 10] (fun u i wr => ∃ j : Nat, j ≤ t.cs.length ∧ i = .int .i64 (j : Int) ∧ Hid (OwnV wr B2 u ((fillR t.cs cols vals).take j)) ∧ Hid (BoxT wr w.heap.size t ⟨pc, cc, pk, ck, px, cx, pr, cr⟩) ∧ Hid (Below w.heap.size w wr) ∧ B2 ≤ wr.heap.size) (fun _ i _ => t.cs.length - (intOf i).toNat)
          case atStart => exact ⟨0, Nat.zero_le _, by go_num, hO3, HB3, h03, hz3⟩
          case round =>
            clear hO3 HB3 h03 hz3
            obtain ⟨j, hj, rfl, hO, hBr, hbw, hzr⟩ := hrel
            have HFL : Hid ((fillR t.cs cols vals).length = t.cs.length ∧ True) := ⟨fillK_len _ _ _ _, trivial⟩
            by_cases hj0 : j = t.cs.length
            · subst hj0
              rw [List.take_of_length_le (by rw [HFL.out.1]; exact Nat.le_refl _)] at hO
              obtain ⟨p9, c9, rfl, hRV⟩ := hO.out.row
              rw [HFL.out.1] at hO ⊢
              obtain ⟨hz3, e0, e1, e2, e3, e4⟩ := hBr.out
              dsimp only at e0 e1 e2 e3 e4
              have CV : Hid (Calls Tryz.prog 19 #[.agg #[.string t.nm, .slice pc t.cs.length cc, .slice pk t.key.length ck, .slice px t.ix.length cx, .slice pr t.rf.length cr], .slice p9 t.cs.length c9] wr fun e w' => e = .returned (.int .i64 d) ∧ Below wr.heap.size wr w') := CAD.out p9 c9 wr hbw.out hRV
              clear hRV CAD
              go_wp2_with fail
              refine CV.out.mono ?_
              rintro e w5 ⟨rfl, hb5⟩
              have h05 : Below w.heap.size w w5 := hbw.out.trans (hb5.mono hbw.out.size)
              have HO5 : Hid (OwnV w5 w.heap.size (.slice p9 t.cs.length c9) (fillR t.cs cols vals)) := owns_base (hO.out.kept hb5) (by omega)
              by_cases hd : d = 0
              · have hR : Hid (R = fillR t.cs cols vals) := by show R = _; rw [HO.out, if_pos hd]
                clear HO
                subst hd
                go_wp2
                go_ret2
                exact ⟨_, rfl, by rw [hR.out]; exact HO5.out, h05⟩
              · have hR : Hid (R = []) := by show R = _; rw [HO.out, if_neg hd]
                have hd' : (d != 0) = true := by simpa using hd
                clear HO hd
                go_wp2
                go_ret2
                exact ⟨_, rfl, by rw [hR.out]; exact OwnV.nil _ _, h05⟩
            · have hj1 : j < t.cs.length := by omega
              obtain ⟨b, o, rfl, hbB, a0, a1, a2, a3, a4, a5, a6⟩ := HV.out.1 j hj1
              have k : ∀ {o : Nat} {v : Option Value}, w.cell? ⟨b, o, none⟩ = v → wr.cell? ⟨b, o, none⟩ = v := fun {o v} hc => (hbw.out.cell (p := ⟨b, o, none⟩) hbB).trans hc
              have y3 := k a3
              have y4 := k a4
              have y5 := k a5
              have y6 := k a6
              have hjf : j < (fillR t.cs cols vals).length := by rw [HFL.out.1]; exact hj1
              have HT : Hid ((fillR t.cs cols vals).take (j + 1) = (fillR t.cs cols vals).take j ++ [atK t.cs[j].df cols vals j cols.length]) := by
                show _ = _
                rw [← List.take_append_getElem hjf, fillR_at HIN.out HL.out.1 hj1]
              obtain ⟨hz3, e0, e1, e2, e3, e4⟩ := hBr.out
              dsimp only at e0 e1 e2 e3 e4
              have hjl : (j : Int) < (t.cs.length : Int) := by omega
              have hA0 : Hid (atK t.cs[j].df cols vals j 0 = t.cs[j].df ∧ ∀ k (h1 : k < cols.length) (h2 : k < vals.length), atK t.cs[j].df cols vals j (k + 1) = if cols[k] = (j : Int) then vals[k] else atK t.cs[j].df cols vals j k) := ⟨rfl, fun k h1 h2 => atK_succ h1 h2⟩
              have hul : ((fillR t.cs cols vals).take j).length ≤ j := by simp; omega
              clear a0 a1 a2 a3 a4 a5 a6 k hjf
              generalize (fillR t.cs cols vals).take j = U at *
              generalize t.cs[j] = c at *
              obtain ⟨cnm, kd, nl, ⟨dk, dn, df, ds⟩⟩ := c
              dsimp only at y3 y4 y5 y6 hA0 HT
              go_wp2_with fail
              have HX : Hid (OwnV (wr.alloc (.cells #[.int .i64 dk, .int .i64 dn, .float .f64 df, .string ds] 55)) B2 (.slice (some ⟨wr.heap.size, 0, none⟩) 1 1) [⟨dk, dn, df, ds⟩]) := World.ownsRow_lit wr #[.int .i64 dk, .int .i64 dn, .float .f64 df, .string ds] 1 hzr (by unfold maxLen; omega) rfl
              have hba : Below wr.heap.size wr (wr.alloc (.cells #[.int .i64 dk, .int .i64 dn, .float .f64 df, .string ds] 55)) := by go_grown
              have HU : Hid (OwnV (wr.alloc (.cells #[.int .i64 dk, .int .i64 dn, .float .f64 df, .string ds] 55)) B2 u9 U) := hO.out.kept hba
              have nU : u9.ownBlock ≠ some wr.heap.size := fun h => by have := (World.ownsRow.lt hO.out _ h).2; omega
              have HB4 : Hid (BoxT (wr.alloc (.cells #[.int .i64 dk, .int .i64 dn, .float .f64 df, .string ds] 55)) w.heap.size t ⟨some ⟨b, o, none⟩, cc, pk, ck, px, cx, pr, cr⟩) := hBr.out.on hba hz3
              have hb4 : Hid (Below w.heap.size w (wr.alloc (.cells #[.int .i64 dk, .int .i64 dn, .float .f64 df, .string ds] 55))) := hbw.out.trans (hba.mono hbw.out.size)
              have hz4 : wr.heap.size < (wr.alloc (.cells #[.int .i64 dk, .int .i64 dn, .float .f64 df, .string ds] 55)).heap.size := by simp
              clear hO hBr hbw hba e0 e1 e2 e3 e4 y3 y4 y5 y6
              generalize wr.alloc (.cells #[.int .i64 dk, .int .i64 dn, .float .f64 df, .string ds] 55) = w4 at *
              generalize wr.heap.size = g at *
              clear hz3
              go_loopw [12] (fun k wr => ∃ i : Nat, i ≤ cols.length ∧ k = .int .i64 (i : Int) ∧ Hid (OwnV wr B2 (.slice (some ⟨g, 0, none⟩) 1 1) [atK ⟨dk, dn, df, ds⟩ cols vals j i] ∧ OwnV wr B2 u9 U) ∧ Hid (BoxT wr w.heap.size t ⟨some ⟨b, o, none⟩, cc, pk, ck, px, cx, pr, cr⟩) ∧ Hid (Below w.heap.size w wr) ∧ g < wr.heap.size) (fun k _ => cols.length - (intOf k).toNat)
              case atStart => exact ⟨0, Nat.zero_le _, by go_num, ⟨HX.out, HU.out⟩, HB4, hb4, hz4⟩
              case round =>
                clear HX HU HB4 hb4 hz4
                obtain ⟨i, hi, rfl, hO, hBr, hbw, hzg⟩ := hrel
                obtain ⟨⟨m0, m1, m2, m3⟩, f0, f1, f2, f3⟩ := hO.out.1.at rfl 0 (by simp)
                simp only [List.getElem_cons_zero, Nat.zero_mul, Nat.zero_add] at m0 m1 m2 m3 f0 f1 f2 f3
                by_cases hi0 : i = cols.length
                · subst hi0
                  generalize atK ⟨dk, dn, df, ds⟩ cols vals j cols.length = v at *
                  obtain ⟨vk, vn, vf, vs⟩ := v
                  dsimp only at m0 m1 m2 m3
                  go_wp2_with (first | (at_builtin; refine wpList_appV _ rfl (.tmp 65) _ rfl B2 u9 _ (by rfl) hO.out.2 ⟨vk, vn, vf, vs⟩ _ rfl (by simp) (by omega) (by omega) ?_; intro v6 w6 h6 h7))
                  go_roundw
                  case rel => exact ⟨j + 1, hj1, by go_num, (show OwnV _ _ _ _ by rw [HT.out]; exact h6), hBr.out.on h7 (by omega), hbw.out.trans (h7.mono (by omega)), by have := h7.size; omega⟩
                  case measure => simp [intOf]; omega
                · have hi1 : i < cols.length := by omega
                  have hi2 : i < vals.length := by have := HL.out.1; omega
                  obtain ⟨b', o', rfl, hbB', r0⟩ := HV.out.2.1 i hi1
                  obtain ⟨b2, o2, rfl, hbB2, s0, s1, s2, s3⟩ := HV.out.2.2 i hi2
                  have r0' := (hbw.out.cell (p := ⟨b', _, none⟩) hbB').trans r0
                  have s0' := (hbw.out.cell (p := ⟨b2, _, none⟩) hbB2).trans s0
                  have s1' := (hbw.out.cell (p := ⟨b2, _, none⟩) hbB2).trans s1
                  have s2' := (hbw.out.cell (p := ⟨b2, _, none⟩) hbB2).trans s2
                  have s3' := (hbw.out.cell (p := ⟨b2, _, none⟩) hbB2).trans s3
                  have HS := hA0.out.2 i hi1 hi2
                  have jv : (i : Int) < (vals.length : Int) := by omega
                  clear r0 s0 s1 s2 s3
                  generalize cols[i] = x at *
                  generalize vals[i] = v at *
                  obtain ⟨vk, vn, vf, vs⟩ := v
                  dsimp only at s0' s1' s2' s3'
                  by_cases hx : x = (j : Int)
                  · rw [if_pos hx] at HS
                    have HS' : Hid (atK ⟨dk, dn, df, ds⟩ cols vals j (i + 1) = ⟨vk, vn, vf, vs⟩) := HS
                    subst hx
                    clear HS
                    generalize atK ⟨dk, dn, df, ds⟩ cols vals j i = old at *
                    obtain ⟨ok, on, of, os⟩ := old
                    dsimp only at m0 m1 m2 m3
                    have HU := hO.out.1.set rfl 0 (by simp) ⟨vk, vn, vf, vs⟩
                    simp only [Nat.zero_mul, Nat.zero_add, List.set_cons_zero] at HU
                    have HU' : Hid (OwnV _ _ _ _) := HU
                    clear HU
                    go_wp2_with fail
                    go_roundw
                    case rel => exact ⟨i + 1, hi1, by go_num, ⟨by rw [HS'.out]; exact HU'.out, ownV_set (ownV_set (ownV_set (ownV_set hO.out.2 nU) nU) nU) nU⟩, (((hBr.out.set (by omega)).set (by omega)).set (by omega)).set (by omega), (((hbw.out.setCell (by simp; omega) _).setCell (by simp; omega) _).setCell (by simp; omega) _).setCell (by simp; omega) _, by simpa using hzg⟩
                    case measure => simp [intOf]; omega
                  · rw [if_neg hx] at HS
                    have HS' : Hid (atK ⟨dk, dn, df, ds⟩ cols vals j (i + 1) = atK ⟨dk, dn, df, ds⟩ cols vals j i) := HS
                    have hx' : (x == (j : Int)) = false := by simpa using hx
                    clear HS hx
                    go_wp2_with fail
                    go_roundw
                    case rel => exact ⟨i + 1, hi1, by go_num, ⟨by rw [HS'.out]; exact hO.out.1, hO.out.2⟩, hBr, hbw, hzg⟩
                    case measure => simp [intOf]; omega
      · have hap' : apartB t.cs.length cols = false := by simpa using hap
        have hd : Hid (d = 1 ∧ R = []) := by
          rw [if_neg (fun h => hap h.2)] at HF
          exact ⟨HF.out, by rw [HO.out, HF.out]; rfl⟩
        have hc0 : 0 < cols.length := by
          rcases Nat.eq_zero_or_pos cols.length with h0 | h0
          · have : cols = [] := List.eq_nil_of_length_eq_zero h0
            subst this
            simp [apartB] at hap
          · exact h0
        have hlb : listB t.cs.length cols = false := by unfold listB; rw [hap', Bool.and_false]
        rw [hlb] at CA2
        obtain ⟨hz1, e0, e1, e2, e3, e4⟩ := HB1.out
        dsimp only at e0 e1 e2 e3 e4
        clear HF hl hap hap' HO hlb
        go_wp2_with fail
        refine (CA2.out _ h01).mono ?_
        rintro e w2 ⟨rfl, hb2⟩
        go_wp2
        go_ret2
        exact ⟨_, tupOwn hd.out.1.symm, by rw [hd.out.2]; exact OwnV.nil _ _, h01.trans (hb2.mono h01.size)⟩
    · have hd : Hid (d = 1 ∧ R = []) := by
        rw [if_neg (fun h => hl h.1)] at HF
        exact ⟨HF.out, by rw [HO.out, HF.out]; rfl⟩
      have hl' : ((cols.length : Int) != (vals.length : Int)) = true := by simp; omega
      clear HF hl HO
      go_wp2
      go_ret2
      exact ⟨_, tupOwn hd.out.1.symm, by rw [hd.out.2]; exact OwnV.nil _ _, h01⟩
  · rw [if_neg hch] at HF
    clear HCN HAS
    generalize checkS t = ch at *
    have hch' : (ch != 0) = true := by simpa using hch
    have hR : Hid (R = []) := by show R = []; rw [HO.out, HF.out, if_neg hch]
    clear HO
    go_enter Tryz.func21, Tryz.ntmps21
    go_wp2_with fail
    refine (CC.out _ hb0).mono ?_
    rintro e w1 ⟨rfl, hb1⟩
    go_wp2
    go_ret2
    exact ⟨_, tupOwn HF.out.symm, by rw [hR.out]; exact OwnV.nil _ _, hb0.trans (hb1.mono hb0.size)⟩
end Go.Proofs.YtobgdjjicgiefaaGreatDoor
