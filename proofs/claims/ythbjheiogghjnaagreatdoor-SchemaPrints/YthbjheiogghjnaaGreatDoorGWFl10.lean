/- The text of digits and an exponent: many digits. The text of digits and an exponent, whatever they are; digits of a number, laid into an array. -/
import Derived.Test.YthbjheiogghjnaaGreatDoorGWFl8
namespace Go.Proofs.YthbjheiogghjnaaGreatDoor
open Go.RowKit
set_option maxRecDepth 100000

set_option maxHeartbeats 16000000 in
theorem fmtE_many (B g : Nat) (neg : Bool) (a : UInt8) (D T : List UInt8) (m : Nat) (vb : Value) (bs : List UInt8) (dp prec : Int) (w : World) (hD : D = a :: T) (hp : prec = (m : Int)) (hd1 : -500 ≤ dp) (hd2 : dp ≤ 500) (ho : OwnB w B vb bs) (hB : B ≤ w.heap.size) (hl : bs.length ≤ 1000) (hG : DigM w g (a :: T)) (hT : T.length = m) (hm : 1 ≤ m) (hm2 : m ≤ 30) :
    Calls Tryz.prog 110 #[vb, .bool neg, .slice (some ⟨g, 0, none⟩) 32 32, .int .i64 dp, .int .i64 (((m + 1 : Nat) : Int)), .int .i64 prec, .int .u8 101, .bool true] w fun e w' => ∃ v', e = .returned v' ∧ OwnB w' B v' (bs ++ fmtE neg D dp) ∧ Keep5 B w w' := by
  subst hD hp
  have hT2 : 2 ≤ T.length + 1 := by omega
  have HT2 : Hid (2 ≤ T.length + 1 ∧ T.length = m) := ⟨hT2, hT⟩
  have hsl : ∀ W, (Instr.slice 52 (.slice (some ⟨g, 0, none⟩) 32 32) (some (.int .i64 1)) (some (.int .i64 ((m + 1 : Nat) : Int))) none).run Tryz.prog W = .ok (.slice (some ⟨g, 1, none⟩) m 31) W := by
    intro W
    have h1 : (0 : Int) ≤ (m : Int) + 1 ∧ (m : Int) + 1 ≤ 32 := by omega
    simp [go_sem, h1]
    try omega
  have g0 : ¬ (((m + 1 : Nat) : Int) = 0) := by omega
  have g1 : (0 : Int) < (m : Int) := by omega
  have g2 : (1 : Int) < ((m + 1 : Nat) : Int) := by omega
  have g3 : min ((m + 1 : Nat) : Int) ((m : Int) + 1) = ((m + 1 : Nat) : Int) := by omega
  have g4 : IntKind.i64.wrap ((m : Int) + 1) = (m : Int) + 1 := by rw [IntKind.wrap_i64]; omega
  clear hT hT2
  cases neg
  · have HO : Hid (OwnB w B vb bs) := ho
    have HK : Hid (Keep5 B w w) := Keep5.refl _ _
    have HL0 : Hid (bs.length ≤ 1000) := hl
    have HBz : Hid (B ≤ w.heap.size) := hB
    have HD : Hid (DigM w g (a :: T)) := hG
    clear hG ho hB hl
    go_enter Tryz.func110, Tryz.ntmps110
    have c0 := HD.out.cell 0 (by simp)
    rw [List.getElem_cons_zero] at c0
    have HL : Hid ((bs).length ≤ 1100) := by have := HL0.out; have := HT2.out.2; show _ ≤ _; first | omega | (simp; omega)
    go_wp2_with (first | (at_builtin; go_loud (refine wpList_app1 w rfl (.tmp 87) (.tmp 89) rfl B _ (bs) (by rfl) HO.out a _ rfl (by rfl) (by have := HL.out; omega) (Nat.le_trans HBz.out HK.out.below.size) ?_); intro v15 w15 h1 h2; refine Hid.out ?_))
    replace HK : Hid (Keep5 B w w15) := HK.out.trans h2
    replace HO : Hid (OwnB w15 B v15 (bs ++ [a])) := h1
    replace HD : Hid (DigM w15 g (a :: T)) := HD.out.keep h2
    clear h1 h2 HL
    unfold Hid
    clear c0
    have HL : Hid ((bs ++ [a]).length ≤ 1100) := by have := HL0.out; have := HT2.out.2; show _ ≤ _; first | omega | (simp; omega)
    go_wp2_with (first | (at_builtin; go_loud (refine wpList_app1 w15 rfl (.tmp 93) (.tmp 94) rfl B _ (bs ++ [a]) (by rfl) HO.out 46 _ rfl (by rfl) (by have := HL.out; omega) (Nat.le_trans HBz.out HK.out.below.size) ?_); intro v16 w16 h1 h2; refine Hid.out ?_))
    replace HK : Hid (Keep5 B w w16) := HK.out.trans h2
    replace HO : Hid (OwnB w16 B v16 (bs ++ [a] ++ [46])) := h1
    replace HD : Hid (DigM w16 g (a :: T)) := HD.out.keep h2
    clear h1 h2 HL
    unfold Hid
    have HL : Hid ((bs ++ [a] ++ [46]).length ≤ 1100) := by have := HL0.out; have := HT2.out.2; show _ ≤ _; first | omega | (simp; omega)
    have HNw : Hid (∀ j (hj : j < T.length), w16.cell? ((⟨g, 1, none⟩ : Addr).add j) = some (.int .u8 (T[j].toNat : Int))) := by
      intro j hj
      have h7 := HD.out.cell (j + 1) (by simp; exact hj)
      rw [List.getElem_cons_succ] at h7
      have e7 : (⟨g, 1, none⟩ : Addr).add j = ⟨g, j + 1, none⟩ := by unfold Addr.add; split <;> simp_all <;> omega
      rw [e7]
      exact h7
    go_wp2_with (first | (at_builtin; go_loud (refine wpList_app w16 rfl (.tmp 103) (.tmp 107) rfl B _ (bs ++ [a] ++ [46]) (by rfl) HO.out ⟨g, 1, none⟩ m 31 T (by rfl) HT2.out.2 HNw.out (by have := HL.out; have := HT2.out.2; omega) (Nat.le_trans HBz.out HK.out.below.size) ?_); intro v17 w17 h1 h2; refine Hid.out ?_))
    replace HK : Hid (Keep5 B w w17) := HK.out.trans h2
    replace HO : Hid (OwnB w17 B v17 (bs ++ [a] ++ [46] ++ T)) := h1
    replace HD : Hid (DigM w17 g (a :: T)) := HD.out.keep h2
    clear h1 h2 HL HNw
    unfold Hid
    go_upto_region 34 with fail
    go_loopw [0, 114] (fun sv si wq => sv = v17 ∧ si = .int .i64 0 ∧ wq = w17) (fun _ _ _ => 0)
    case atStart => exact ⟨rfl, rfl, rfl⟩
    case round =>
      obtain ⟨rfl, rfl, hwr⟩ := hrel
      rw [hwr]
      clear hwr
      by_cases hsg : dp - 1 < 0
      · have hxs : dp - 1 < 0 := hsg
        have q10 : (-(dp - 1)).tdiv 10 = (((-(dp - 1)).toNat / 10 : Nat) : Int) := by rw [Int.tdiv_eq_ediv_of_nonneg (by omega)]; omega
        have q100 : (-(dp - 1)).tdiv 100 = (((-(dp - 1)).toNat / 100 : Nat) : Int) := by rw [Int.tdiv_eq_ediv_of_nonneg (by omega)]; omega
        have r10 : (-(dp - 1)).tmod 10 = (((-(dp - 1)).toNat % 10 : Nat) : Int) := by rw [Int.tmod_eq_emod_of_nonneg (by omega)]; omega
        have HL : Hid ((bs ++ [a] ++ [46] ++ T).length ≤ 1100) := by have := HL0.out; have := HT2.out.2; show _ ≤ _; first | omega | (simp; omega)
        go_wp2_with (first | (at_builtin; go_loud (refine wpList_app1 w17 rfl (.tmp 120) (.tmp 122) rfl B _ (bs ++ [a] ++ [46] ++ T) (by rfl) HO.out 101 _ rfl (by rfl) (by have := HL.out; omega) (Nat.le_trans HBz.out HK.out.below.size) ?_); intro v18 w18 h1 h2; refine Hid.out ?_))
        replace HK : Hid (Keep5 B w w18) := HK.out.trans h2
        replace HO : Hid (OwnB w18 B v18 (bs ++ [a] ++ [46] ++ T ++ [101])) := h1
        clear h1 h2 HL
        unfold Hid
        have HL : Hid ((bs ++ [a] ++ [46] ++ T ++ [101]).length ≤ 1100) := by have := HL0.out; have := HT2.out.2; show _ ≤ _; first | omega | (simp; omega)
        go_wp2_with (first | (at_builtin; go_loud (refine wpList_app1 w18 rfl (.tmp 132) (.tmp 134) rfl B _ (bs ++ [a] ++ [46] ++ T ++ [101]) (by rfl) HO.out 45 _ rfl (by rfl) (by have := HL.out; omega) (Nat.le_trans HBz.out HK.out.below.size) ?_); intro v19 w19 h1 h2; refine Hid.out ?_))
        replace HK : Hid (Keep5 B w w19) := HK.out.trans h2
        replace HO : Hid (OwnB w19 B v19 (bs ++ [a] ++ [46] ++ T ++ [101] ++ [45])) := h1
        clear h1 h2 HL
        unfold Hid
        by_cases t10 : (-(dp - 1)) < 10
        · have hx1 : (-(dp - 1)).toNat < 10 := by omega
          have gx1 : (-(dp - 1)) < 10 := by omega
          have HL : Hid ((bs ++ [a] ++ [46] ++ T ++ [101] ++ [45]).length ≤ 1100) := by have := HL0.out; have := HT2.out.2; show _ ≤ _; first | omega | (simp; omega)
          go_wp2_with (first | (at_builtin; go_loud (refine wpList_app2 w19 rfl (.tmp 155) (.tmp 159) rfl B _ (bs ++ [a] ++ [46] ++ T ++ [101] ++ [45]) (by rfl) HO.out 48 (UInt8.ofNat ((-(dp - 1)).toNat + 48)) _ _ (by first | rfl | (rw [UInt8.toNat_ofNat']; omega)) (by first | rfl | (rw [UInt8.toNat_ofNat']; omega)) (by rfl) (by have := HL.out; omega) (Nat.le_trans HBz.out HK.out.below.size) ?_); intro v20 w20 h1 h2; refine Hid.out ?_))
          replace HK : Hid (Keep5 B w w20) := HK.out.trans h2
          replace HO : Hid (OwnB w20 B v20 (bs ++ [a] ++ [46] ++ T ++ [101] ++ [45] ++ [48, (UInt8.ofNat ((-(dp - 1)).toNat + 48))])) := h1
          clear h1 h2 HL
          unfold Hid
          go_wp2_with fail
          go_ret
          refine ⟨_, rfl, ?_, HK.out⟩
          have e9 : bs ++ [a] ++ [46] ++ T ++ [101] ++ [45] ++ [48, (UInt8.ofNat ((-(dp - 1)).toNat + 48))] = bs ++ fmtE false (a :: T) dp := by
            have hE : expS (dp - 1) = 45 :: [48, (UInt8.ofNat ((-(dp - 1)).toNat + 48))] := by
              unfold expS
              rw [if_pos (show dp - 1 < 0 by omega)]
              unfold expB
              rw [if_pos (show (-(dp - 1)).toNat < 10 by omega)]
            have hI : (if (a :: T) = [] then (0 : Int) else dp - 1) = dp - 1 := if_neg (by simp)
            unfold fmtE
            rw [hI, hE]
            simp [digE, HT2.out.1]
          rw [← e9]
          exact HO.out
        · by_cases t100 : (-(dp - 1)) < 100
          · have hx0 : ¬ (-(dp - 1)).toNat < 10 := by omega
            have hx1 : (-(dp - 1)).toNat < 100 := by omega
            have gx0 : ¬ (-(dp - 1)) < 10 := by omega
            have gx1 : (-(dp - 1)) < 100 := by omega
            have HL : Hid ((bs ++ [a] ++ [46] ++ T ++ [101] ++ [45]).length ≤ 1100) := by have := HL0.out; have := HT2.out.2; show _ ≤ _; first | omega | (simp; omega)
            go_wp2_with (first | (at_builtin; go_loud (refine wpList_app2 w19 rfl (.tmp 164) (.tmp 173) rfl B _ (bs ++ [a] ++ [46] ++ T ++ [101] ++ [45]) (by rfl) HO.out (UInt8.ofNat ((-(dp - 1)).toNat / 10 + 48)) (UInt8.ofNat ((-(dp - 1)).toNat % 10 + 48)) _ _ (by first | rfl | (rw [UInt8.toNat_ofNat']; omega)) (by first | rfl | (rw [UInt8.toNat_ofNat']; omega)) (by rfl) (by have := HL.out; omega) (Nat.le_trans HBz.out HK.out.below.size) ?_); intro v21 w21 h1 h2; refine Hid.out ?_))
            replace HK : Hid (Keep5 B w w21) := HK.out.trans h2
            replace HO : Hid (OwnB w21 B v21 (bs ++ [a] ++ [46] ++ T ++ [101] ++ [45] ++ [(UInt8.ofNat ((-(dp - 1)).toNat / 10 + 48)), (UInt8.ofNat ((-(dp - 1)).toNat % 10 + 48))])) := h1
            clear h1 h2 HL
            unfold Hid
            go_wp2_with fail
            go_ret
            refine ⟨_, rfl, ?_, HK.out⟩
            have e9 : bs ++ [a] ++ [46] ++ T ++ [101] ++ [45] ++ [(UInt8.ofNat ((-(dp - 1)).toNat / 10 + 48)), (UInt8.ofNat ((-(dp - 1)).toNat % 10 + 48))] = bs ++ fmtE false (a :: T) dp := by
              have hE : expS (dp - 1) = 45 :: [(UInt8.ofNat ((-(dp - 1)).toNat / 10 + 48)), (UInt8.ofNat ((-(dp - 1)).toNat % 10 + 48))] := by
                unfold expS
                rw [if_pos (show dp - 1 < 0 by omega)]
                unfold expB
                rw [if_neg (show ¬ (-(dp - 1)).toNat < 10 by omega), if_pos (show (-(dp - 1)).toNat < 100 by omega)]
              have hI : (if (a :: T) = [] then (0 : Int) else dp - 1) = dp - 1 := if_neg (by simp)
              unfold fmtE
              rw [hI, hE]
              simp [digE, HT2.out.1]
            rw [← e9]
            exact HO.out
          · have hx1 : ¬ (-(dp - 1)).toNat < 10 := by omega
            have hx2 : ¬ (-(dp - 1)).toNat < 100 := by omega
            have gx0 : ¬ (-(dp - 1)) < 10 := by omega
            have gx1 : ¬ (-(dp - 1)) < 100 := by omega
            have HL : Hid ((bs ++ [a] ++ [46] ++ T ++ [101] ++ [45]).length ≤ 1100) := by have := HL0.out; have := HT2.out.2; show _ ≤ _; first | omega | (simp; omega)
            go_wp2_with (first | (at_builtin; go_loud (refine wpList_app3 w19 rfl (.tmp 136) (.tmp 150) rfl B _ (bs ++ [a] ++ [46] ++ T ++ [101] ++ [45]) (by rfl) HO.out (UInt8.ofNat ((-(dp - 1)).toNat / 100 + 48)) (UInt8.ofNat ((-(dp - 1)).toNat / 10 % 10 + 48)) (UInt8.ofNat ((-(dp - 1)).toNat % 10 + 48)) _ _ _ (by first | rfl | (rw [UInt8.toNat_ofNat']; omega)) (by first | rfl | (rw [UInt8.toNat_ofNat']; omega)) (by first | rfl | (rw [UInt8.toNat_ofNat']; omega)) (by rfl) (by have := HL.out; omega) (Nat.le_trans HBz.out HK.out.below.size) ?_); intro v22 w22 h1 h2; refine Hid.out ?_))
            replace HK : Hid (Keep5 B w w22) := HK.out.trans h2
            replace HO : Hid (OwnB w22 B v22 (bs ++ [a] ++ [46] ++ T ++ [101] ++ [45] ++ [(UInt8.ofNat ((-(dp - 1)).toNat / 100 + 48)), (UInt8.ofNat ((-(dp - 1)).toNat / 10 % 10 + 48)), (UInt8.ofNat ((-(dp - 1)).toNat % 10 + 48))])) := h1
            clear h1 h2 HL
            unfold Hid
            go_wp2_with fail
            go_ret
            refine ⟨_, rfl, ?_, HK.out⟩
            have e9 : bs ++ [a] ++ [46] ++ T ++ [101] ++ [45] ++ [(UInt8.ofNat ((-(dp - 1)).toNat / 100 + 48)), (UInt8.ofNat ((-(dp - 1)).toNat / 10 % 10 + 48)), (UInt8.ofNat ((-(dp - 1)).toNat % 10 + 48))] = bs ++ fmtE false (a :: T) dp := by
              have hE : expS (dp - 1) = 45 :: [(UInt8.ofNat ((-(dp - 1)).toNat / 100 + 48)), (UInt8.ofNat ((-(dp - 1)).toNat / 10 % 10 + 48)), (UInt8.ofNat ((-(dp - 1)).toNat % 10 + 48))] := by
                unfold expS
                rw [if_pos (show dp - 1 < 0 by omega)]
                unfold expB
                rw [if_neg (show ¬ (-(dp - 1)).toNat < 10 by omega), if_neg (show ¬ (-(dp - 1)).toNat < 100 by omega)]
              have hI : (if (a :: T) = [] then (0 : Int) else dp - 1) = dp - 1 := if_neg (by simp)
              unfold fmtE
              rw [hI, hE]
              simp [digE, HT2.out.1]
            rw [← e9]
            exact HO.out
      · have hxs : ¬ dp - 1 < 0 := hsg
        have q10 : (dp - 1).tdiv 10 = (((dp - 1).toNat / 10 : Nat) : Int) := by rw [Int.tdiv_eq_ediv_of_nonneg (by omega)]; omega
        have q100 : (dp - 1).tdiv 100 = (((dp - 1).toNat / 100 : Nat) : Int) := by rw [Int.tdiv_eq_ediv_of_nonneg (by omega)]; omega
        have r10 : (dp - 1).tmod 10 = (((dp - 1).toNat % 10 : Nat) : Int) := by rw [Int.tmod_eq_emod_of_nonneg (by omega)]; omega
        have HL : Hid ((bs ++ [a] ++ [46] ++ T).length ≤ 1100) := by have := HL0.out; have := HT2.out.2; show _ ≤ _; first | omega | (simp; omega)
        go_wp2_with (first | (at_builtin; go_loud (refine wpList_app1 w17 rfl (.tmp 120) (.tmp 122) rfl B _ (bs ++ [a] ++ [46] ++ T) (by rfl) HO.out 101 _ rfl (by rfl) (by have := HL.out; omega) (Nat.le_trans HBz.out HK.out.below.size) ?_); intro v23 w23 h1 h2; refine Hid.out ?_))
        replace HK : Hid (Keep5 B w w23) := HK.out.trans h2
        replace HO : Hid (OwnB w23 B v23 (bs ++ [a] ++ [46] ++ T ++ [101])) := h1
        clear h1 h2 HL
        unfold Hid
        have HL : Hid ((bs ++ [a] ++ [46] ++ T ++ [101]).length ≤ 1100) := by have := HL0.out; have := HT2.out.2; show _ ≤ _; first | omega | (simp; omega)
        go_wp2_with (first | (at_builtin; go_loud (refine wpList_app1 w23 rfl (.tmp 132) (.tmp 134) rfl B _ (bs ++ [a] ++ [46] ++ T ++ [101]) (by rfl) HO.out 43 _ rfl (by rfl) (by have := HL.out; omega) (Nat.le_trans HBz.out HK.out.below.size) ?_); intro v24 w24 h1 h2; refine Hid.out ?_))
        replace HK : Hid (Keep5 B w w24) := HK.out.trans h2
        replace HO : Hid (OwnB w24 B v24 (bs ++ [a] ++ [46] ++ T ++ [101] ++ [43])) := h1
        clear h1 h2 HL
        unfold Hid
        by_cases t10 : (dp - 1) < 10
        · have hx1 : (dp - 1).toNat < 10 := by omega
          have gx1 : (dp - 1) < 10 := by omega
          have HL : Hid ((bs ++ [a] ++ [46] ++ T ++ [101] ++ [43]).length ≤ 1100) := by have := HL0.out; have := HT2.out.2; show _ ≤ _; first | omega | (simp; omega)
          go_wp2_with (first | (at_builtin; go_loud (refine wpList_app2 w24 rfl (.tmp 155) (.tmp 159) rfl B _ (bs ++ [a] ++ [46] ++ T ++ [101] ++ [43]) (by rfl) HO.out 48 (UInt8.ofNat ((dp - 1).toNat + 48)) _ _ (by first | rfl | (rw [UInt8.toNat_ofNat']; omega)) (by first | rfl | (rw [UInt8.toNat_ofNat']; omega)) (by rfl) (by have := HL.out; omega) (Nat.le_trans HBz.out HK.out.below.size) ?_); intro v25 w25 h1 h2; refine Hid.out ?_))
          replace HK : Hid (Keep5 B w w25) := HK.out.trans h2
          replace HO : Hid (OwnB w25 B v25 (bs ++ [a] ++ [46] ++ T ++ [101] ++ [43] ++ [48, (UInt8.ofNat ((dp - 1).toNat + 48))])) := h1
          clear h1 h2 HL
          unfold Hid
          go_wp2_with fail
          go_ret
          refine ⟨_, rfl, ?_, HK.out⟩
          have e9 : bs ++ [a] ++ [46] ++ T ++ [101] ++ [43] ++ [48, (UInt8.ofNat ((dp - 1).toNat + 48))] = bs ++ fmtE false (a :: T) dp := by
            have hE : expS (dp - 1) = 43 :: [48, (UInt8.ofNat ((dp - 1).toNat + 48))] := by
              unfold expS
              rw [if_neg (show ¬ dp - 1 < 0 by omega)]
              unfold expB
              rw [if_pos (show (dp - 1).toNat < 10 by omega)]
            have hI : (if (a :: T) = [] then (0 : Int) else dp - 1) = dp - 1 := if_neg (by simp)
            unfold fmtE
            rw [hI, hE]
            simp [digE, HT2.out.1]
          rw [← e9]
          exact HO.out
        · by_cases t100 : (dp - 1) < 100
          · have hx0 : ¬ (dp - 1).toNat < 10 := by omega
            have hx1 : (dp - 1).toNat < 100 := by omega
            have gx0 : ¬ (dp - 1) < 10 := by omega
            have gx1 : (dp - 1) < 100 := by omega
            have HL : Hid ((bs ++ [a] ++ [46] ++ T ++ [101] ++ [43]).length ≤ 1100) := by have := HL0.out; have := HT2.out.2; show _ ≤ _; first | omega | (simp; omega)
            go_wp2_with (first | (at_builtin; go_loud (refine wpList_app2 w24 rfl (.tmp 164) (.tmp 173) rfl B _ (bs ++ [a] ++ [46] ++ T ++ [101] ++ [43]) (by rfl) HO.out (UInt8.ofNat ((dp - 1).toNat / 10 + 48)) (UInt8.ofNat ((dp - 1).toNat % 10 + 48)) _ _ (by first | rfl | (rw [UInt8.toNat_ofNat']; omega)) (by first | rfl | (rw [UInt8.toNat_ofNat']; omega)) (by rfl) (by have := HL.out; omega) (Nat.le_trans HBz.out HK.out.below.size) ?_); intro v26 w26 h1 h2; refine Hid.out ?_))
            replace HK : Hid (Keep5 B w w26) := HK.out.trans h2
            replace HO : Hid (OwnB w26 B v26 (bs ++ [a] ++ [46] ++ T ++ [101] ++ [43] ++ [(UInt8.ofNat ((dp - 1).toNat / 10 + 48)), (UInt8.ofNat ((dp - 1).toNat % 10 + 48))])) := h1
            clear h1 h2 HL
            unfold Hid
            go_wp2_with fail
            go_ret
            refine ⟨_, rfl, ?_, HK.out⟩
            have e9 : bs ++ [a] ++ [46] ++ T ++ [101] ++ [43] ++ [(UInt8.ofNat ((dp - 1).toNat / 10 + 48)), (UInt8.ofNat ((dp - 1).toNat % 10 + 48))] = bs ++ fmtE false (a :: T) dp := by
              have hE : expS (dp - 1) = 43 :: [(UInt8.ofNat ((dp - 1).toNat / 10 + 48)), (UInt8.ofNat ((dp - 1).toNat % 10 + 48))] := by
                unfold expS
                rw [if_neg (show ¬ dp - 1 < 0 by omega)]
                unfold expB
                rw [if_neg (show ¬ (dp - 1).toNat < 10 by omega), if_pos (show (dp - 1).toNat < 100 by omega)]
              have hI : (if (a :: T) = [] then (0 : Int) else dp - 1) = dp - 1 := if_neg (by simp)
              unfold fmtE
              rw [hI, hE]
              simp [digE, HT2.out.1]
            rw [← e9]
            exact HO.out
          · have hx1 : ¬ (dp - 1).toNat < 10 := by omega
            have hx2 : ¬ (dp - 1).toNat < 100 := by omega
            have gx0 : ¬ (dp - 1) < 10 := by omega
            have gx1 : ¬ (dp - 1) < 100 := by omega
            have HL : Hid ((bs ++ [a] ++ [46] ++ T ++ [101] ++ [43]).length ≤ 1100) := by have := HL0.out; have := HT2.out.2; show _ ≤ _; first | omega | (simp; omega)
            go_wp2_with (first | (at_builtin; go_loud (refine wpList_app3 w24 rfl (.tmp 136) (.tmp 150) rfl B _ (bs ++ [a] ++ [46] ++ T ++ [101] ++ [43]) (by rfl) HO.out (UInt8.ofNat ((dp - 1).toNat / 100 + 48)) (UInt8.ofNat ((dp - 1).toNat / 10 % 10 + 48)) (UInt8.ofNat ((dp - 1).toNat % 10 + 48)) _ _ _ (by first | rfl | (rw [UInt8.toNat_ofNat']; omega)) (by first | rfl | (rw [UInt8.toNat_ofNat']; omega)) (by first | rfl | (rw [UInt8.toNat_ofNat']; omega)) (by rfl) (by have := HL.out; omega) (Nat.le_trans HBz.out HK.out.below.size) ?_); intro v27 w27 h1 h2; refine Hid.out ?_))
            replace HK : Hid (Keep5 B w w27) := HK.out.trans h2
            replace HO : Hid (OwnB w27 B v27 (bs ++ [a] ++ [46] ++ T ++ [101] ++ [43] ++ [(UInt8.ofNat ((dp - 1).toNat / 100 + 48)), (UInt8.ofNat ((dp - 1).toNat / 10 % 10 + 48)), (UInt8.ofNat ((dp - 1).toNat % 10 + 48))])) := h1
            clear h1 h2 HL
            unfold Hid
            go_wp2_with fail
            go_ret
            refine ⟨_, rfl, ?_, HK.out⟩
            have e9 : bs ++ [a] ++ [46] ++ T ++ [101] ++ [43] ++ [(UInt8.ofNat ((dp - 1).toNat / 100 + 48)), (UInt8.ofNat ((dp - 1).toNat / 10 % 10 + 48)), (UInt8.ofNat ((dp - 1).toNat % 10 + 48))] = bs ++ fmtE false (a :: T) dp := by
              have hE : expS (dp - 1) = 43 :: [(UInt8.ofNat ((dp - 1).toNat / 100 + 48)), (UInt8.ofNat ((dp - 1).toNat / 10 % 10 + 48)), (UInt8.ofNat ((dp - 1).toNat % 10 + 48))] := by
                unfold expS
                rw [if_neg (show ¬ dp - 1 < 0 by omega)]
                unfold expB
                rw [if_neg (show ¬ (dp - 1).toNat < 10 by omega), if_neg (show ¬ (dp - 1).toNat < 100 by omega)]
              have hI : (if (a :: T) = [] then (0 : Int) else dp - 1) = dp - 1 := if_neg (by simp)
              unfold fmtE
              rw [hI, hE]
              simp [digE, HT2.out.1]
            rw [← e9]
            exact HO.out
  · have HO : Hid (OwnB w B vb bs) := ho
    have HK : Hid (Keep5 B w w) := Keep5.refl _ _
    have HL0 : Hid (bs.length ≤ 1000) := hl
    have HBz : Hid (B ≤ w.heap.size) := hB
    have HD : Hid (DigM w g (a :: T)) := hG
    clear hG ho hB hl
    go_enter Tryz.func110, Tryz.ntmps110
    have HL : Hid ((bs).length ≤ 1100) := by have := HL0.out; have := HT2.out.2; show _ ≤ _; first | omega | (simp; omega)
    go_wp2_with (first | (at_builtin; go_loud (refine wpList_app1 w rfl (.tmp 79) (.tmp 80) rfl B _ (bs) (by rfl) HO.out 45 _ rfl (by rfl) (by have := HL.out; omega) (Nat.le_trans HBz.out HK.out.below.size) ?_); intro v1 w1 h1 h2; refine Hid.out ?_))
    replace HK : Hid (Keep5 B w w1) := HK.out.trans h2
    replace HO : Hid (OwnB w1 B v1 (bs ++ [45])) := h1
    replace HD : Hid (DigM w1 g (a :: T)) := HD.out.keep h2
    clear h1 h2 HL
    unfold Hid
    have c0 := HD.out.cell 0 (by simp)
    rw [List.getElem_cons_zero] at c0
    have HL : Hid ((bs ++ [45]).length ≤ 1100) := by have := HL0.out; have := HT2.out.2; show _ ≤ _; first | omega | (simp; omega)
    go_wp2_with (first | (at_builtin; go_loud (refine wpList_app1 w1 rfl (.tmp 87) (.tmp 89) rfl B _ (bs ++ [45]) (by rfl) HO.out a _ rfl (by rfl) (by have := HL.out; omega) (Nat.le_trans HBz.out HK.out.below.size) ?_); intro v2 w2 h1 h2; refine Hid.out ?_))
    replace HK : Hid (Keep5 B w w2) := HK.out.trans h2
    replace HO : Hid (OwnB w2 B v2 (bs ++ [45] ++ [a])) := h1
    replace HD : Hid (DigM w2 g (a :: T)) := HD.out.keep h2
    clear h1 h2 HL
    unfold Hid
    clear c0
    have HL : Hid ((bs ++ [45] ++ [a]).length ≤ 1100) := by have := HL0.out; have := HT2.out.2; show _ ≤ _; first | omega | (simp; omega)
    go_wp2_with (first | (at_builtin; go_loud (refine wpList_app1 w2 rfl (.tmp 93) (.tmp 94) rfl B _ (bs ++ [45] ++ [a]) (by rfl) HO.out 46 _ rfl (by rfl) (by have := HL.out; omega) (Nat.le_trans HBz.out HK.out.below.size) ?_); intro v3 w3 h1 h2; refine Hid.out ?_))
    replace HK : Hid (Keep5 B w w3) := HK.out.trans h2
    replace HO : Hid (OwnB w3 B v3 (bs ++ [45] ++ [a] ++ [46])) := h1
    replace HD : Hid (DigM w3 g (a :: T)) := HD.out.keep h2
    clear h1 h2 HL
    unfold Hid
    have HL : Hid ((bs ++ [45] ++ [a] ++ [46]).length ≤ 1100) := by have := HL0.out; have := HT2.out.2; show _ ≤ _; first | omega | (simp; omega)
    have HNw : Hid (∀ j (hj : j < T.length), w3.cell? ((⟨g, 1, none⟩ : Addr).add j) = some (.int .u8 (T[j].toNat : Int))) := by
      intro j hj
      have h7 := HD.out.cell (j + 1) (by simp; exact hj)
      rw [List.getElem_cons_succ] at h7
      have e7 : (⟨g, 1, none⟩ : Addr).add j = ⟨g, j + 1, none⟩ := by unfold Addr.add; split <;> simp_all <;> omega
      rw [e7]
      exact h7
    go_wp2_with (first | (at_builtin; go_loud (refine wpList_app w3 rfl (.tmp 103) (.tmp 107) rfl B _ (bs ++ [45] ++ [a] ++ [46]) (by rfl) HO.out ⟨g, 1, none⟩ m 31 T (by rfl) HT2.out.2 HNw.out (by have := HL.out; have := HT2.out.2; omega) (Nat.le_trans HBz.out HK.out.below.size) ?_); intro v4 w4 h1 h2; refine Hid.out ?_))
    replace HK : Hid (Keep5 B w w4) := HK.out.trans h2
    replace HO : Hid (OwnB w4 B v4 (bs ++ [45] ++ [a] ++ [46] ++ T)) := h1
    replace HD : Hid (DigM w4 g (a :: T)) := HD.out.keep h2
    clear h1 h2 HL HNw
    unfold Hid
    go_upto_region 34 with fail
    go_loopw [0, 114] (fun sv si wq => sv = v4 ∧ si = .int .i64 0 ∧ wq = w4) (fun _ _ _ => 0)
    case atStart => exact ⟨rfl, rfl, rfl⟩
    case round =>
      obtain ⟨rfl, rfl, hwr⟩ := hrel
      rw [hwr]
      clear hwr
      by_cases hsg : dp - 1 < 0
      · have hxs : dp - 1 < 0 := hsg
        have q10 : (-(dp - 1)).tdiv 10 = (((-(dp - 1)).toNat / 10 : Nat) : Int) := by rw [Int.tdiv_eq_ediv_of_nonneg (by omega)]; omega
        have q100 : (-(dp - 1)).tdiv 100 = (((-(dp - 1)).toNat / 100 : Nat) : Int) := by rw [Int.tdiv_eq_ediv_of_nonneg (by omega)]; omega
        have r10 : (-(dp - 1)).tmod 10 = (((-(dp - 1)).toNat % 10 : Nat) : Int) := by rw [Int.tmod_eq_emod_of_nonneg (by omega)]; omega
        have HL : Hid ((bs ++ [45] ++ [a] ++ [46] ++ T).length ≤ 1100) := by have := HL0.out; have := HT2.out.2; show _ ≤ _; first | omega | (simp; omega)
        go_wp2_with (first | (at_builtin; go_loud (refine wpList_app1 w4 rfl (.tmp 120) (.tmp 122) rfl B _ (bs ++ [45] ++ [a] ++ [46] ++ T) (by rfl) HO.out 101 _ rfl (by rfl) (by have := HL.out; omega) (Nat.le_trans HBz.out HK.out.below.size) ?_); intro v5 w5 h1 h2; refine Hid.out ?_))
        replace HK : Hid (Keep5 B w w5) := HK.out.trans h2
        replace HO : Hid (OwnB w5 B v5 (bs ++ [45] ++ [a] ++ [46] ++ T ++ [101])) := h1
        clear h1 h2 HL
        unfold Hid
        have HL : Hid ((bs ++ [45] ++ [a] ++ [46] ++ T ++ [101]).length ≤ 1100) := by have := HL0.out; have := HT2.out.2; show _ ≤ _; first | omega | (simp; omega)
        go_wp2_with (first | (at_builtin; go_loud (refine wpList_app1 w5 rfl (.tmp 132) (.tmp 134) rfl B _ (bs ++ [45] ++ [a] ++ [46] ++ T ++ [101]) (by rfl) HO.out 45 _ rfl (by rfl) (by have := HL.out; omega) (Nat.le_trans HBz.out HK.out.below.size) ?_); intro v6 w6 h1 h2; refine Hid.out ?_))
        replace HK : Hid (Keep5 B w w6) := HK.out.trans h2
        replace HO : Hid (OwnB w6 B v6 (bs ++ [45] ++ [a] ++ [46] ++ T ++ [101] ++ [45])) := h1
        clear h1 h2 HL
        unfold Hid
        by_cases t10 : (-(dp - 1)) < 10
        · have hx1 : (-(dp - 1)).toNat < 10 := by omega
          have gx1 : (-(dp - 1)) < 10 := by omega
          have HL : Hid ((bs ++ [45] ++ [a] ++ [46] ++ T ++ [101] ++ [45]).length ≤ 1100) := by have := HL0.out; have := HT2.out.2; show _ ≤ _; first | omega | (simp; omega)
          go_wp2_with (first | (at_builtin; go_loud (refine wpList_app2 w6 rfl (.tmp 155) (.tmp 159) rfl B _ (bs ++ [45] ++ [a] ++ [46] ++ T ++ [101] ++ [45]) (by rfl) HO.out 48 (UInt8.ofNat ((-(dp - 1)).toNat + 48)) _ _ (by first | rfl | (rw [UInt8.toNat_ofNat']; omega)) (by first | rfl | (rw [UInt8.toNat_ofNat']; omega)) (by rfl) (by have := HL.out; omega) (Nat.le_trans HBz.out HK.out.below.size) ?_); intro v7 w7 h1 h2; refine Hid.out ?_))
          replace HK : Hid (Keep5 B w w7) := HK.out.trans h2
          replace HO : Hid (OwnB w7 B v7 (bs ++ [45] ++ [a] ++ [46] ++ T ++ [101] ++ [45] ++ [48, (UInt8.ofNat ((-(dp - 1)).toNat + 48))])) := h1
          clear h1 h2 HL
          unfold Hid
          go_wp2_with fail
          go_ret
          refine ⟨_, rfl, ?_, HK.out⟩
          have e9 : bs ++ [45] ++ [a] ++ [46] ++ T ++ [101] ++ [45] ++ [48, (UInt8.ofNat ((-(dp - 1)).toNat + 48))] = bs ++ fmtE true (a :: T) dp := by
            have hE : expS (dp - 1) = 45 :: [48, (UInt8.ofNat ((-(dp - 1)).toNat + 48))] := by
              unfold expS
              rw [if_pos (show dp - 1 < 0 by omega)]
              unfold expB
              rw [if_pos (show (-(dp - 1)).toNat < 10 by omega)]
            have hI : (if (a :: T) = [] then (0 : Int) else dp - 1) = dp - 1 := if_neg (by simp)
            unfold fmtE
            rw [hI, hE]
            simp [digE, HT2.out.1]
          rw [← e9]
          exact HO.out
        · by_cases t100 : (-(dp - 1)) < 100
          · have hx0 : ¬ (-(dp - 1)).toNat < 10 := by omega
            have hx1 : (-(dp - 1)).toNat < 100 := by omega
            have gx0 : ¬ (-(dp - 1)) < 10 := by omega
            have gx1 : (-(dp - 1)) < 100 := by omega
            have HL : Hid ((bs ++ [45] ++ [a] ++ [46] ++ T ++ [101] ++ [45]).length ≤ 1100) := by have := HL0.out; have := HT2.out.2; show _ ≤ _; first | omega | (simp; omega)
            go_wp2_with (first | (at_builtin; go_loud (refine wpList_app2 w6 rfl (.tmp 164) (.tmp 173) rfl B _ (bs ++ [45] ++ [a] ++ [46] ++ T ++ [101] ++ [45]) (by rfl) HO.out (UInt8.ofNat ((-(dp - 1)).toNat / 10 + 48)) (UInt8.ofNat ((-(dp - 1)).toNat % 10 + 48)) _ _ (by first | rfl | (rw [UInt8.toNat_ofNat']; omega)) (by first | rfl | (rw [UInt8.toNat_ofNat']; omega)) (by rfl) (by have := HL.out; omega) (Nat.le_trans HBz.out HK.out.below.size) ?_); intro v8 w8 h1 h2; refine Hid.out ?_))
            replace HK : Hid (Keep5 B w w8) := HK.out.trans h2
            replace HO : Hid (OwnB w8 B v8 (bs ++ [45] ++ [a] ++ [46] ++ T ++ [101] ++ [45] ++ [(UInt8.ofNat ((-(dp - 1)).toNat / 10 + 48)), (UInt8.ofNat ((-(dp - 1)).toNat % 10 + 48))])) := h1
            clear h1 h2 HL
            unfold Hid
            go_wp2_with fail
            go_ret
            refine ⟨_, rfl, ?_, HK.out⟩
            have e9 : bs ++ [45] ++ [a] ++ [46] ++ T ++ [101] ++ [45] ++ [(UInt8.ofNat ((-(dp - 1)).toNat / 10 + 48)), (UInt8.ofNat ((-(dp - 1)).toNat % 10 + 48))] = bs ++ fmtE true (a :: T) dp := by
              have hE : expS (dp - 1) = 45 :: [(UInt8.ofNat ((-(dp - 1)).toNat / 10 + 48)), (UInt8.ofNat ((-(dp - 1)).toNat % 10 + 48))] := by
                unfold expS
                rw [if_pos (show dp - 1 < 0 by omega)]
                unfold expB
                rw [if_neg (show ¬ (-(dp - 1)).toNat < 10 by omega), if_pos (show (-(dp - 1)).toNat < 100 by omega)]
              have hI : (if (a :: T) = [] then (0 : Int) else dp - 1) = dp - 1 := if_neg (by simp)
              unfold fmtE
              rw [hI, hE]
              simp [digE, HT2.out.1]
            rw [← e9]
            exact HO.out
          · have hx1 : ¬ (-(dp - 1)).toNat < 10 := by omega
            have hx2 : ¬ (-(dp - 1)).toNat < 100 := by omega
            have gx0 : ¬ (-(dp - 1)) < 10 := by omega
            have gx1 : ¬ (-(dp - 1)) < 100 := by omega
            have HL : Hid ((bs ++ [45] ++ [a] ++ [46] ++ T ++ [101] ++ [45]).length ≤ 1100) := by have := HL0.out; have := HT2.out.2; show _ ≤ _; first | omega | (simp; omega)
            go_wp2_with (first | (at_builtin; go_loud (refine wpList_app3 w6 rfl (.tmp 136) (.tmp 150) rfl B _ (bs ++ [45] ++ [a] ++ [46] ++ T ++ [101] ++ [45]) (by rfl) HO.out (UInt8.ofNat ((-(dp - 1)).toNat / 100 + 48)) (UInt8.ofNat ((-(dp - 1)).toNat / 10 % 10 + 48)) (UInt8.ofNat ((-(dp - 1)).toNat % 10 + 48)) _ _ _ (by first | rfl | (rw [UInt8.toNat_ofNat']; omega)) (by first | rfl | (rw [UInt8.toNat_ofNat']; omega)) (by first | rfl | (rw [UInt8.toNat_ofNat']; omega)) (by rfl) (by have := HL.out; omega) (Nat.le_trans HBz.out HK.out.below.size) ?_); intro v9 w9 h1 h2; refine Hid.out ?_))
            replace HK : Hid (Keep5 B w w9) := HK.out.trans h2
            replace HO : Hid (OwnB w9 B v9 (bs ++ [45] ++ [a] ++ [46] ++ T ++ [101] ++ [45] ++ [(UInt8.ofNat ((-(dp - 1)).toNat / 100 + 48)), (UInt8.ofNat ((-(dp - 1)).toNat / 10 % 10 + 48)), (UInt8.ofNat ((-(dp - 1)).toNat % 10 + 48))])) := h1
            clear h1 h2 HL
            unfold Hid
            go_wp2_with fail
            go_ret
            refine ⟨_, rfl, ?_, HK.out⟩
            have e9 : bs ++ [45] ++ [a] ++ [46] ++ T ++ [101] ++ [45] ++ [(UInt8.ofNat ((-(dp - 1)).toNat / 100 + 48)), (UInt8.ofNat ((-(dp - 1)).toNat / 10 % 10 + 48)), (UInt8.ofNat ((-(dp - 1)).toNat % 10 + 48))] = bs ++ fmtE true (a :: T) dp := by
              have hE : expS (dp - 1) = 45 :: [(UInt8.ofNat ((-(dp - 1)).toNat / 100 + 48)), (UInt8.ofNat ((-(dp - 1)).toNat / 10 % 10 + 48)), (UInt8.ofNat ((-(dp - 1)).toNat % 10 + 48))] := by
                unfold expS
                rw [if_pos (show dp - 1 < 0 by omega)]
                unfold expB
                rw [if_neg (show ¬ (-(dp - 1)).toNat < 10 by omega), if_neg (show ¬ (-(dp - 1)).toNat < 100 by omega)]
              have hI : (if (a :: T) = [] then (0 : Int) else dp - 1) = dp - 1 := if_neg (by simp)
              unfold fmtE
              rw [hI, hE]
              simp [digE, HT2.out.1]
            rw [← e9]
            exact HO.out
      · have hxs : ¬ dp - 1 < 0 := hsg
        have q10 : (dp - 1).tdiv 10 = (((dp - 1).toNat / 10 : Nat) : Int) := by rw [Int.tdiv_eq_ediv_of_nonneg (by omega)]; omega
        have q100 : (dp - 1).tdiv 100 = (((dp - 1).toNat / 100 : Nat) : Int) := by rw [Int.tdiv_eq_ediv_of_nonneg (by omega)]; omega
        have r10 : (dp - 1).tmod 10 = (((dp - 1).toNat % 10 : Nat) : Int) := by rw [Int.tmod_eq_emod_of_nonneg (by omega)]; omega
        have HL : Hid ((bs ++ [45] ++ [a] ++ [46] ++ T).length ≤ 1100) := by have := HL0.out; have := HT2.out.2; show _ ≤ _; first | omega | (simp; omega)
        go_wp2_with (first | (at_builtin; go_loud (refine wpList_app1 w4 rfl (.tmp 120) (.tmp 122) rfl B _ (bs ++ [45] ++ [a] ++ [46] ++ T) (by rfl) HO.out 101 _ rfl (by rfl) (by have := HL.out; omega) (Nat.le_trans HBz.out HK.out.below.size) ?_); intro v10 w10 h1 h2; refine Hid.out ?_))
        replace HK : Hid (Keep5 B w w10) := HK.out.trans h2
        replace HO : Hid (OwnB w10 B v10 (bs ++ [45] ++ [a] ++ [46] ++ T ++ [101])) := h1
        clear h1 h2 HL
        unfold Hid
        have HL : Hid ((bs ++ [45] ++ [a] ++ [46] ++ T ++ [101]).length ≤ 1100) := by have := HL0.out; have := HT2.out.2; show _ ≤ _; first | omega | (simp; omega)
        go_wp2_with (first | (at_builtin; go_loud (refine wpList_app1 w10 rfl (.tmp 132) (.tmp 134) rfl B _ (bs ++ [45] ++ [a] ++ [46] ++ T ++ [101]) (by rfl) HO.out 43 _ rfl (by rfl) (by have := HL.out; omega) (Nat.le_trans HBz.out HK.out.below.size) ?_); intro v11 w11 h1 h2; refine Hid.out ?_))
        replace HK : Hid (Keep5 B w w11) := HK.out.trans h2
        replace HO : Hid (OwnB w11 B v11 (bs ++ [45] ++ [a] ++ [46] ++ T ++ [101] ++ [43])) := h1
        clear h1 h2 HL
        unfold Hid
        by_cases t10 : (dp - 1) < 10
        · have hx1 : (dp - 1).toNat < 10 := by omega
          have gx1 : (dp - 1) < 10 := by omega
          have HL : Hid ((bs ++ [45] ++ [a] ++ [46] ++ T ++ [101] ++ [43]).length ≤ 1100) := by have := HL0.out; have := HT2.out.2; show _ ≤ _; first | omega | (simp; omega)
          go_wp2_with (first | (at_builtin; go_loud (refine wpList_app2 w11 rfl (.tmp 155) (.tmp 159) rfl B _ (bs ++ [45] ++ [a] ++ [46] ++ T ++ [101] ++ [43]) (by rfl) HO.out 48 (UInt8.ofNat ((dp - 1).toNat + 48)) _ _ (by first | rfl | (rw [UInt8.toNat_ofNat']; omega)) (by first | rfl | (rw [UInt8.toNat_ofNat']; omega)) (by rfl) (by have := HL.out; omega) (Nat.le_trans HBz.out HK.out.below.size) ?_); intro v12 w12 h1 h2; refine Hid.out ?_))
          replace HK : Hid (Keep5 B w w12) := HK.out.trans h2
          replace HO : Hid (OwnB w12 B v12 (bs ++ [45] ++ [a] ++ [46] ++ T ++ [101] ++ [43] ++ [48, (UInt8.ofNat ((dp - 1).toNat + 48))])) := h1
          clear h1 h2 HL
          unfold Hid
          go_wp2_with fail
          go_ret
          refine ⟨_, rfl, ?_, HK.out⟩
          have e9 : bs ++ [45] ++ [a] ++ [46] ++ T ++ [101] ++ [43] ++ [48, (UInt8.ofNat ((dp - 1).toNat + 48))] = bs ++ fmtE true (a :: T) dp := by
            have hE : expS (dp - 1) = 43 :: [48, (UInt8.ofNat ((dp - 1).toNat + 48))] := by
              unfold expS
              rw [if_neg (show ¬ dp - 1 < 0 by omega)]
              unfold expB
              rw [if_pos (show (dp - 1).toNat < 10 by omega)]
            have hI : (if (a :: T) = [] then (0 : Int) else dp - 1) = dp - 1 := if_neg (by simp)
            unfold fmtE
            rw [hI, hE]
            simp [digE, HT2.out.1]
          rw [← e9]
          exact HO.out
        · by_cases t100 : (dp - 1) < 100
          · have hx0 : ¬ (dp - 1).toNat < 10 := by omega
            have hx1 : (dp - 1).toNat < 100 := by omega
            have gx0 : ¬ (dp - 1) < 10 := by omega
            have gx1 : (dp - 1) < 100 := by omega
            have HL : Hid ((bs ++ [45] ++ [a] ++ [46] ++ T ++ [101] ++ [43]).length ≤ 1100) := by have := HL0.out; have := HT2.out.2; show _ ≤ _; first | omega | (simp; omega)
            go_wp2_with (first | (at_builtin; go_loud (refine wpList_app2 w11 rfl (.tmp 164) (.tmp 173) rfl B _ (bs ++ [45] ++ [a] ++ [46] ++ T ++ [101] ++ [43]) (by rfl) HO.out (UInt8.ofNat ((dp - 1).toNat / 10 + 48)) (UInt8.ofNat ((dp - 1).toNat % 10 + 48)) _ _ (by first | rfl | (rw [UInt8.toNat_ofNat']; omega)) (by first | rfl | (rw [UInt8.toNat_ofNat']; omega)) (by rfl) (by have := HL.out; omega) (Nat.le_trans HBz.out HK.out.below.size) ?_); intro v13 w13 h1 h2; refine Hid.out ?_))
            replace HK : Hid (Keep5 B w w13) := HK.out.trans h2
            replace HO : Hid (OwnB w13 B v13 (bs ++ [45] ++ [a] ++ [46] ++ T ++ [101] ++ [43] ++ [(UInt8.ofNat ((dp - 1).toNat / 10 + 48)), (UInt8.ofNat ((dp - 1).toNat % 10 + 48))])) := h1
            clear h1 h2 HL
            unfold Hid
            go_wp2_with fail
            go_ret
            refine ⟨_, rfl, ?_, HK.out⟩
            have e9 : bs ++ [45] ++ [a] ++ [46] ++ T ++ [101] ++ [43] ++ [(UInt8.ofNat ((dp - 1).toNat / 10 + 48)), (UInt8.ofNat ((dp - 1).toNat % 10 + 48))] = bs ++ fmtE true (a :: T) dp := by
              have hE : expS (dp - 1) = 43 :: [(UInt8.ofNat ((dp - 1).toNat / 10 + 48)), (UInt8.ofNat ((dp - 1).toNat % 10 + 48))] := by
                unfold expS
                rw [if_neg (show ¬ dp - 1 < 0 by omega)]
                unfold expB
                rw [if_neg (show ¬ (dp - 1).toNat < 10 by omega), if_pos (show (dp - 1).toNat < 100 by omega)]
              have hI : (if (a :: T) = [] then (0 : Int) else dp - 1) = dp - 1 := if_neg (by simp)
              unfold fmtE
              rw [hI, hE]
              simp [digE, HT2.out.1]
            rw [← e9]
            exact HO.out
          · have hx1 : ¬ (dp - 1).toNat < 10 := by omega
            have hx2 : ¬ (dp - 1).toNat < 100 := by omega
            have gx0 : ¬ (dp - 1) < 10 := by omega
            have gx1 : ¬ (dp - 1) < 100 := by omega
            have HL : Hid ((bs ++ [45] ++ [a] ++ [46] ++ T ++ [101] ++ [43]).length ≤ 1100) := by have := HL0.out; have := HT2.out.2; show _ ≤ _; first | omega | (simp; omega)
            go_wp2_with (first | (at_builtin; go_loud (refine wpList_app3 w11 rfl (.tmp 136) (.tmp 150) rfl B _ (bs ++ [45] ++ [a] ++ [46] ++ T ++ [101] ++ [43]) (by rfl) HO.out (UInt8.ofNat ((dp - 1).toNat / 100 + 48)) (UInt8.ofNat ((dp - 1).toNat / 10 % 10 + 48)) (UInt8.ofNat ((dp - 1).toNat % 10 + 48)) _ _ _ (by first | rfl | (rw [UInt8.toNat_ofNat']; omega)) (by first | rfl | (rw [UInt8.toNat_ofNat']; omega)) (by first | rfl | (rw [UInt8.toNat_ofNat']; omega)) (by rfl) (by have := HL.out; omega) (Nat.le_trans HBz.out HK.out.below.size) ?_); intro v14 w14 h1 h2; refine Hid.out ?_))
            replace HK : Hid (Keep5 B w w14) := HK.out.trans h2
            replace HO : Hid (OwnB w14 B v14 (bs ++ [45] ++ [a] ++ [46] ++ T ++ [101] ++ [43] ++ [(UInt8.ofNat ((dp - 1).toNat / 100 + 48)), (UInt8.ofNat ((dp - 1).toNat / 10 % 10 + 48)), (UInt8.ofNat ((dp - 1).toNat % 10 + 48))])) := h1
            clear h1 h2 HL
            unfold Hid
            go_wp2_with fail
            go_ret
            refine ⟨_, rfl, ?_, HK.out⟩
            have e9 : bs ++ [45] ++ [a] ++ [46] ++ T ++ [101] ++ [43] ++ [(UInt8.ofNat ((dp - 1).toNat / 100 + 48)), (UInt8.ofNat ((dp - 1).toNat / 10 % 10 + 48)), (UInt8.ofNat ((dp - 1).toNat % 10 + 48))] = bs ++ fmtE true (a :: T) dp := by
              have hE : expS (dp - 1) = 43 :: [(UInt8.ofNat ((dp - 1).toNat / 100 + 48)), (UInt8.ofNat ((dp - 1).toNat / 10 % 10 + 48)), (UInt8.ofNat ((dp - 1).toNat % 10 + 48))] := by
                unfold expS
                rw [if_neg (show ¬ dp - 1 < 0 by omega)]
                unfold expB
                rw [if_neg (show ¬ (dp - 1).toNat < 10 by omega), if_neg (show ¬ (dp - 1).toNat < 100 by omega)]
              have hI : (if (a :: T) = [] then (0 : Int) else dp - 1) = dp - 1 := if_neg (by simp)
              unfold fmtE
              rw [hI, hE]
              simp [digE, HT2.out.1]
            rw [← e9]
            exact HO.out

end Go.Proofs.YthbjheiogghjnaaGreatDoor

namespace Go.Proofs.YthbjheiogghjnaaGreatDoor
open Go.RowKit
set_option maxRecDepth 100000

theorem fmtE_any (B g : Nat) (neg : Bool) (D : List UInt8) (vb : Value) (bs : List UInt8) (dp : Int) (w : World) (hd1 : -500 ≤ dp) (hd2 : dp ≤ 500) (ho : OwnB w B vb bs) (hB : B ≤ w.heap.size) (hl : bs.length ≤ 1000) (hG : DigM w g D) (hD : D.length ≤ 30) :
    Calls Tryz.prog 110 #[vb, .bool neg, .slice (some ⟨g, 0, none⟩) 32 32, .int .i64 dp, .int .i64 (D.length : Nat), .int .i64 ((D.length - 1 : Nat) : Int), .int .u8 101, .bool true] w fun e w' => ∃ v', e = .returned v' ∧ OwnB w' B v' (bs ++ fmtE neg D dp) ∧ Keep5 B w w' := by
  match D, hG, hD with
  | [], _, _ => exact fmtE_zero B g neg [] _ vb bs dp 0 w rfl (by decide) hd1 hd2 ho hB hl
  | [a], hG, _ => exact fmtE_one B g neg a [a] [] vb bs dp 0 w rfl rfl hd1 hd2 ho hB hl hG rfl
  | a :: b :: r, hG, hD =>
    have h := fmtE_many B g neg a (a :: b :: r) (b :: r) (r.length + 1) vb bs dp ((r.length + 1 : Nat) : Int) w rfl rfl hd1 hd2 ho hB hl hG rfl (by omega) (by simp at hD; omega)
    exact h
/-- how many digits a number has, none for nought -/
def ndN (u : Nat) : Nat := if u = 0 then 0 else Lib.nDigits u
theorem ndN_le (u : Nat) (h : u < 18446744073709551616) : ndN u ≤ 20 ∧ u < 10 ^ ndN u := by
  unfold ndN
  split
  · rename_i h0
    subst h0
    exact ⟨by decide, by decide⟩
  · rename_i h0
    have h1 := Lib.numDigits_eq u (by omega) h
    refine ⟨?_, Lib.lt_pow_nDigits u⟩
    split at h1 <;> omega
/-- a number's digits, without noughts at the end -/
def digL (u : Nat) : List UInt8 := (List.range (trimN (fun t => Lib.dg u (ndN u - 1 - t)) (ndN u))).map (fun t => Lib.dg u (ndN u - 1 - t))
theorem digL_len (u : Nat) : (digL u).length = trimN (fun t => Lib.dg u (ndN u - 1 - t)) (ndN u) := by unfold digL; simp
theorem digL_at (u t : Nat) (ht : t < (digL u).length) : (digL u)[t] = Lib.dg u (ndN u - 1 - t) := by
  have h1 : (digL u)[t]? = some (Lib.dg u (ndN u - 1 - t)) := by
    have h2 := ht
    rw [digL_len] at h2
    unfold digL
    rw [List.getElem?_map, List.getElem?_range h2]
    rfl
  rw [List.getElem?_eq_getElem ht] at h1
  exact Option.some.inj h1
theorem numD_any (u : Nat) (h2 : u < 18446744073709551616) (w : World) (htab : Lib.TabIs Tryz.prog w "internal/strconv.uint64pow10" .u64 Lib.pow10Tab) :
    Calls Tryz.prog 75 #[.int .u64 (u : Nat)] w fun e w' => e = .returned (.int .i64 (ndN u : Nat)) ∧ w' = w := by
  by_cases h0 : u = 0
  · subst h0
    exact numDigits_zero w htab
  · have h := Tryz.internal_strconv_numDigits u (by omega) h2 w htab
    unfold ndN
    rw [if_neg h0]
    exact h
theorem setD_any (u g : Nat) (p : Int) (w : World) (hu64 : u < 18446744073709551616) (hp1 : -400 ≤ p) (hp2 : p ≤ 400) (hH : Row32 w g) (cs : Array Value) (hg : w.heap[g]? = some (.cells cs 139 (0, 0))) :
    Calls Tryz.prog 112 #[.slice (some ⟨g, 0, none⟩) 32 32, .int .u64 (u : Nat), .int .i64 p, .int .i64 (ndN u : Nat)] w fun e w' => e = .returned (.tuple #[.int .i64 ((ndN u : Int) + p), .int .i64 ((digL u).length : Nat)]) ∧ DigM w' g (digL u) ∧ Below g w w' := by
  obtain ⟨h1, h2⟩ := ndN_le u hu64
  refine (setDigits_any u (ndN u) g p w h2 hu64 h1 hp1 hp2 hH cs _ hg).mono ?_
  rintro e w' ⟨rfl, hc, ⟨cs', hk⟩, hb⟩
  refine ⟨by rw [digL_len], ⟨cs', hk, fun t ht => ?_⟩, hb⟩
  have hl := trimN_le (fun t => Lib.dg u (ndN u - 1 - t)) (ndN u)
  have ht' := ht
  rw [digL_len] at ht'
  have h9 := hc t (by omega)
  simp only [World.cell?, hk] at h9
  rw [digL_at u t ht]
  simpa using h9

end Go.Proofs.YthbjheiogghjnaaGreatDoor
