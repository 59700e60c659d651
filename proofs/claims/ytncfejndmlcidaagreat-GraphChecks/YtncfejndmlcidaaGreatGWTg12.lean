/- Layer 19: phenomena. Layer 19: order, serial and Serial where nothing was committed; Phenomena. -/
import Derived.Test.YtncfejndmlcidaaGreatGWTg10
namespace Go.Proofs.YtncfejndmlcidaaGreat
open Go.RowKit
set_option maxRecDepth 100000

theorem insE_len (x : Ed) : ∀ (L : List Ed), (insE x L).length ≤ L.length + 1
  | [] => Nat.le_refl _
  | z :: L => by
    have := insE_len x L
    unfold insE
    by_cases h1 : ltE x z = true
    · rw [if_pos h1]; simp
    · rw [if_neg h1]
      by_cases h2 : ltE z x = true
      · rw [if_pos h2]; simp only [List.length_cons]; omega
      · rw [if_neg h2]; simp
theorem srE_len (L : List Ed) : (srE L).length ≤ L.length := by
  unfold srE
  induction L with
  | nil => simp
  | cons x L ih =>
    rw [List.foldr_cons]
    have := insE_len x (List.foldr insE [] L)
    rw [List.length_cons]
    omega
theorem edM_len {H : List Ac} {d : Dv} {uns : Int → List (List Ed) → List (List Ed)} (hU : UnsF H d uns) : (edM d H uns).length = d.C.length := by
  unfold edM raM
  rw [List.length_map, cmM_len hU, ovM_len, List.length_replicate]
theorem edM_l {H : List Ac} {d : Dv} {uns : Int → List (List Ed) → List (List Ed)} (hU : UnsF H d uns) (hH : H.length ≤ 4096) (hsn : snN H ≤ 4096) (hI : d.I.length ≤ 4096) (hC : d.C.length ≤ 4096) : ∀ l ∈ edM d H uns, l.length ≤ 1099511627776 := fun l hl => by
  obtain ⟨l', h1, rfl⟩ := List.mem_map.1 hl
  refine Nat.le_trans (srE_len l') ?_
  obtain ⟨i, hi, rfl⟩ := List.getElem_of_mem h1
  have h2 := cmM_le hU hH hsn d.C _ _ (ovM_le d.pl H d.I (RowsLe.rep d.C.length 0) hH d.I.length)
  have h3 := h2 i
  have e : cmM d H uns (ovM d.pl H d.I (List.replicate d.C.length []) d.I.length) d.C = raM d H uns := rfl
  rw [e, List.getD_eq_getElem?_getD, List.getElem?_eq_getElem hi, Option.getD_some] at h3
  omega
abbrev phV (a b c d e f g : Bool) : Value := .agg #[.bool a, .bool b, .bool c, .bool d, .bool e, .bool f, .bool g]
set_option maxHeartbeats 16000000 in
theorem phenomena_any (N B : Nat) (H : List Ac) (d : Dv) (uns : Int → List (List Ed) → List (List Ed)) (w : World) (hR : RdD w N B H d) (hF : Fin H d.s d) (hH : OkF H) (hU : UnsF H d uns) (hI : d.I.length ≤ 4096) (hsn : snN H ≤ 4096) (hlt : EdLt d.C.length (edM d H uns)) (gs ru rb : Bool)
    (hRU : ∀ W, RdD W N B H d → Calls Tryz.prog 57 #[.pointer (some ⟨d.s.hb, 0, none⟩)] W fun e w' => e = .returned (.bool ru) ∧ Below W.heap.size W w')
    (hRB : ∀ W, RdD W N B H d → Calls Tryz.prog 58 #[.pointer (some ⟨d.s.hb, 0, none⟩)] W fun e w' => e = .returned (.bool rb) ∧ Below W.heap.size W w')
    (hSg : ∀ C ob vs W, EdK W C ob vs (edM d H uns) d.C.length → Calls Tryz.prog 59 #[.slice (some ⟨ob, 0, none⟩) d.C.length d.C.length] W fun e w' => e = .returned (.bool gs) ∧ Below W.heap.size W w') :
    Calls Tryz.prog 29 #[.pointer (some ⟨d.s.hb, 0, none⟩)] w fun e w' => e = .returned (phV (turnsM (edM d H uns) (partsM (tgs [1] (edM d H uns))) [1]) ru rb (turnsM (edM d H uns) (partsM (tgs [1, 2] (edM d H uns))) [1, 2]) gs (turnsM (edM d H uns) (partsM (tgs [1, 2, 3, 4] (edM d H uns))) [3]) (turnsM (edM d H uns) (partsM (tgs [1, 2, 3, 4] (edM d H uns))) [3, 4])) ∧ Below w.heap.size w w' := by
  have hC4 : d.C.length ≤ 4096 := by rw [hF.perm.length_eq]; exact Nat.le_trans (cms_len H) hH.len
  have HL : Hid ((edM d H uns).length = d.C.length ∧ d.C.length ≤ 4096 ∧ (∀ l ∈ edM d H uns, l.length ≤ 1099511627776) ∧ EdLt d.C.length (edM d H uns)) := ⟨edM_len hU, hC4, edM_l hU hH.len hsn hI hC4, hlt⟩
  obtain ⟨w1, hw1⟩ : ∃ w1, w.alloc (.cells #[.bool false, .bool false, .bool false, .bool false, .bool false, .bool false, .bool false] 34) = w1 := ⟨_, rfl⟩
  have HBww1 : Hid (Below w.heap.size w w1) := by rw [← hw1]; exact (Below.refl _ _).alloc (Nat.le_refl _) _
  have HK1 : Hid (Blk w1 w.heap.size #[.bool false, .bool false, .bool false, .bool false, .bool false, .bool false, .bool false] 34) := by rw [← hw1]; exact Blk.new w _ _
  have hR1 := hR.on (HBww1.out.mono hR.size)
  have HR1 : Hid (RdD w1 N B H d) := hR1
  have HRU : Hid (∀ W, RdD W N B H d → Calls Tryz.prog 57 #[.pointer (some ⟨d.s.hb, 0, none⟩)] W fun e w' => e = .returned (.bool ru) ∧ Below W.heap.size W w') := hRU
  have HRB : Hid (∀ W, RdD W N B H d → Calls Tryz.prog 58 #[.pointer (some ⟨d.s.hb, 0, none⟩)] W fun e w' => e = .returned (.bool rb) ∧ Below W.heap.size W w') := hRB
  have HSg : Hid (∀ C ob vs W, EdK W C ob vs (edM d H uns) d.C.length → Calls Tryz.prog 59 #[.slice (some ⟨ob, 0, none⟩) d.C.length d.C.length] W fun e w' => e = .returned (.bool gs) ∧ Below W.heap.size W w') := hSg
  have CE : Hid (Calls Tryz.prog 47 #[.pointer (some ⟨d.s.hb, 0, none⟩)] w1 fun e w' => ∃ ob vs, e = .returned (.slice (some ⟨ob, 0, none⟩) d.C.length d.C.length) ∧ OutE w' w1.heap.size ob vs (edM d H uns) ∧ Below w1.heap.size w1 w') := edges_any N B H d uns w1 hR1 hF hH hU hI hsn
  clear hR hF hH hU hI hsn hlt hRU hRB hSg hR1 hC4
  generalize edM d H uns = LL at *
  generalize d.C.length = n at *
  go_enter Tryz.func29, Tryz.ntmps29
  go_wp2_with fail
  clear hw1
  refine CE.out.mono ?_
  rintro e w2 ⟨ob, vs, rfl, hE2, hb2⟩
  have HBw1w2 : Hid (Below w1.heap.size w1 w2) := hb2
  have HBww2 : Hid (Below w.heap.size w w2) := HBww1.out.trans (hb2.mono HBww1.out.size)
  have HX : Hid (∀ W, Below w2.heap.size w2 W → EdK W w1.heap.size ob vs LL n ∧ RdD W N B H d ∧ Blk W w.heap.size #[.bool false, .bool false, .bool false, .bool false, .bool false, .bool false, .bool false] 34) := fun W h => by
    have h1 : Below w1.heap.size w1 W := hb2.trans (h.mono hb2.size)
    exact ⟨⟨hE2.on h, HL.out.1, HL.out.2.1, HL.out.2.2.1, HL.out.2.2.2⟩, HR1.out.on (h1.mono HR1.out.size), HK1.out.on h1⟩
  have HBw2w2 : Hid (Below w2.heap.size w2 w2) := Below.refl _ _
  clear CE hb2 hE2
  obtain ⟨w3, hw3⟩ : ∃ w3, w2.alloc (.cells #[.int .i64 1] 3) = w3 := ⟨_, rfl⟩
  have halw3 : Below w2.heap.size w2 w3 := by rw [← hw3]; exact (Below.refl _ _).alloc (Nat.le_refl _) _
  have HBww3 : Hid (Below w.heap.size w w3) := HBww2.out.trans ((halw3).mono HBww2.out.size)
  have HBw2w3 : Hid (Below w2.heap.size w2 w3) := HBw2w2.out.trans ((halw3).mono HBw2w2.out.size)
  have hkw3 : SlG encN 1 w3.heap.size w3 (.slice (some ⟨w2.heap.size, 0, none⟩) 1 1) [1] := by rw [← hw3]; exact slg_new w2 [1] rfl
  have CT : Hid (Calls Tryz.prog 54 #[.slice (some ⟨ob, 0, none⟩) n n, .slice (some ⟨w2.heap.size, 0, none⟩) 1 1] w3 fun e w' => ∃ tb ts, e = .returned (.slice (some ⟨tb, 0, none⟩) n n) ∧ OutN w' w3.heap.size tb ts (tgs [1] LL) ∧ Below w3.heap.size w3 w') := (HX.out w3 HBw2w3.out).1.tg _ [1] hkw3 (by decide)
  clear hkw3 halw3
  go_wp2_with fail
  clear hw3
  clear HBww2
  refine CT.out.mono ?_
  rintro e w4 ⟨tb, ts, rfl, hO, hal⟩
  have HO : Hid (OutN w4 w3.heap.size tb ts (tgs [1] LL)) := hO
  have HBww4 : Hid (Below w.heap.size w w4) := HBww3.out.trans ((hal).mono HBww3.out.size)
  have HBw2w4 : Hid (Below w2.heap.size w2 w4) := HBw2w3.out.trans ((hal).mono HBw2w3.out.size)
  clear hO hal CT
  clear HBww3 HBw2w3
  have CP : Hid (Calls Tryz.prog 53 #[.slice (some ⟨tb, 0, none⟩) n n] w4 fun e w' => ∃ qb, e = .returned (.slice (some ⟨qb, 0, none⟩) n n) ∧ w4.heap.size ≤ qb ∧ Blk w' qb (ints9 (partsM (tgs [1] LL))) 3 ∧ (partsM (tgs [1] LL)).length = n ∧ Below w4.heap.size w4 w') := parts_any w3.heap.size tb ts (tgs [1] LL) n w4 HO.out (by rw [tgs, List.length_map]; exact HL.out.1) HL.out.2.1 (HL.out.2.2.2.tg [1]) (tgs_rl HL.out.2.2.1 [1])
  go_wp2_with fail
  refine CP.out.mono ?_
  rintro e w5 ⟨q1, rfl, -, hq, hql, hal⟩
  have HBww5 : Hid (Below w.heap.size w w5) := HBww4.out.trans ((hal).mono HBww4.out.size)
  have HBw2w5 : Hid (Below w2.heap.size w2 w5) := HBw2w4.out.trans ((hal).mono HBw2w4.out.size)
  have Hq1 : Hid ((partsM (tgs [1] LL)).length = n ∧ Blk w5 q1 (ints9 (partsM (tgs [1] LL))) 3) := ⟨hql, hq⟩
  clear hq hql hal CP HO
  clear ts
  clear HBww4 HBw2w4
  have HBw5w5 : Hid (Below w5.heap.size w5 w5) := Below.refl _ _
  obtain ⟨w6, hw6⟩ : ∃ w6, w5.alloc (.cells #[.int .i64 1, .int .i64 2] 3) = w6 := ⟨_, rfl⟩
  have halw6 : Below w5.heap.size w5 w6 := by rw [← hw6]; exact (Below.refl _ _).alloc (Nat.le_refl _) _
  have HBww6 : Hid (Below w.heap.size w w6) := HBww5.out.trans ((halw6).mono HBww5.out.size)
  have HBw2w6 : Hid (Below w2.heap.size w2 w6) := HBw2w5.out.trans ((halw6).mono HBw2w5.out.size)
  have HBw5w6 : Hid (Below w5.heap.size w5 w6) := HBw5w5.out.trans ((halw6).mono HBw5w5.out.size)
  have hkw6 : SlG encN 1 w6.heap.size w6 (.slice (some ⟨w5.heap.size, 0, none⟩) 2 2) [1, 2] := by rw [← hw6]; exact slg_new w5 [1, 2] rfl
  have CT : Hid (Calls Tryz.prog 54 #[.slice (some ⟨ob, 0, none⟩) n n, .slice (some ⟨w5.heap.size, 0, none⟩) 2 2] w6 fun e w' => ∃ tb ts, e = .returned (.slice (some ⟨tb, 0, none⟩) n n) ∧ OutN w' w6.heap.size tb ts (tgs [1, 2] LL) ∧ Below w6.heap.size w6 w') := (HX.out w6 HBw2w6.out).1.tg _ [1, 2] hkw6 (by decide)
  clear hkw6 halw6
  go_wp2_with fail
  clear hw6
  clear HBww5 HBw2w5
  refine CT.out.mono ?_
  rintro e w7 ⟨tb, ts, rfl, hO, hal⟩
  have HO : Hid (OutN w7 w6.heap.size tb ts (tgs [1, 2] LL)) := hO
  have HBww7 : Hid (Below w.heap.size w w7) := HBww6.out.trans ((hal).mono HBww6.out.size)
  have HBw2w7 : Hid (Below w2.heap.size w2 w7) := HBw2w6.out.trans ((hal).mono HBw2w6.out.size)
  have HBw5w7 : Hid (Below w5.heap.size w5 w7) := HBw5w6.out.trans ((hal).mono HBw5w6.out.size)
  clear hO hal CT
  clear HBww6 HBw2w6 HBw5w6
  have CP : Hid (Calls Tryz.prog 53 #[.slice (some ⟨tb, 0, none⟩) n n] w7 fun e w' => ∃ qb, e = .returned (.slice (some ⟨qb, 0, none⟩) n n) ∧ w7.heap.size ≤ qb ∧ Blk w' qb (ints9 (partsM (tgs [1, 2] LL))) 3 ∧ (partsM (tgs [1, 2] LL)).length = n ∧ Below w7.heap.size w7 w') := parts_any w6.heap.size tb ts (tgs [1, 2] LL) n w7 HO.out (by rw [tgs, List.length_map]; exact HL.out.1) HL.out.2.1 (HL.out.2.2.2.tg [1, 2]) (tgs_rl HL.out.2.2.1 [1, 2])
  go_wp2_with fail
  refine CP.out.mono ?_
  rintro e w8 ⟨q2, rfl, -, hq, hql, hal⟩
  have HBww8 : Hid (Below w.heap.size w w8) := HBww7.out.trans ((hal).mono HBww7.out.size)
  have HBw2w8 : Hid (Below w2.heap.size w2 w8) := HBw2w7.out.trans ((hal).mono HBw2w7.out.size)
  have HBw5w8 : Hid (Below w5.heap.size w5 w8) := HBw5w7.out.trans ((hal).mono HBw5w7.out.size)
  have Hq2 : Hid ((partsM (tgs [1, 2] LL)).length = n ∧ Blk w8 q2 (ints9 (partsM (tgs [1, 2] LL))) 3) := ⟨hql, hq⟩
  clear hq hql hal CP HO
  clear ts
  clear HBww7 HBw2w7 HBw5w7
  have HBw8w8 : Hid (Below w8.heap.size w8 w8) := Below.refl _ _
  have CT : Hid (Calls Tryz.prog 55 #[.slice (some ⟨ob, 0, none⟩) n n] w8 fun e w' => ∃ tb ts, e = .returned (.slice (some ⟨tb, 0, none⟩) n n) ∧ OutN w' w8.heap.size tb ts (tgs [1, 2, 3, 4] LL) ∧ Below w8.heap.size w8 w') := allTargets_any w1.heap.size ob vs LL n w8 (HX.out w8 HBw2w8.out).1
  go_wp2_with fail
  refine CT.out.mono ?_
  rintro e w9 ⟨tb, ts, rfl, hO, hal⟩
  have HO : Hid (OutN w9 w8.heap.size tb ts (tgs [1, 2, 3, 4] LL)) := hO
  have HBww9 : Hid (Below w.heap.size w w9) := HBww8.out.trans ((hal).mono HBww8.out.size)
  have HBw2w9 : Hid (Below w2.heap.size w2 w9) := HBw2w8.out.trans ((hal).mono HBw2w8.out.size)
  have HBw5w9 : Hid (Below w5.heap.size w5 w9) := HBw5w8.out.trans ((hal).mono HBw5w8.out.size)
  have HBw8w9 : Hid (Below w8.heap.size w8 w9) := HBw8w8.out.trans ((hal).mono HBw8w8.out.size)
  clear hO hal CT
  clear HBww8 HBw2w8 HBw5w8
  have CP : Hid (Calls Tryz.prog 53 #[.slice (some ⟨tb, 0, none⟩) n n] w9 fun e w' => ∃ qb, e = .returned (.slice (some ⟨qb, 0, none⟩) n n) ∧ w9.heap.size ≤ qb ∧ Blk w' qb (ints9 (partsM (tgs [1, 2, 3, 4] LL))) 3 ∧ (partsM (tgs [1, 2, 3, 4] LL)).length = n ∧ Below w9.heap.size w9 w') := parts_any w8.heap.size tb ts (tgs [1, 2, 3, 4] LL) n w9 HO.out (by rw [tgs, List.length_map]; exact HL.out.1) HL.out.2.1 (HL.out.2.2.2.tg [1, 2, 3, 4]) (tgs_rl HL.out.2.2.1 [1, 2, 3, 4])
  go_wp2_with fail
  refine CP.out.mono ?_
  rintro e w10 ⟨q3, rfl, -, hq, hql, hal⟩
  have HBww10 : Hid (Below w.heap.size w w10) := HBww9.out.trans ((hal).mono HBww9.out.size)
  have HBw2w10 : Hid (Below w2.heap.size w2 w10) := HBw2w9.out.trans ((hal).mono HBw2w9.out.size)
  have HBw5w10 : Hid (Below w5.heap.size w5 w10) := HBw5w9.out.trans ((hal).mono HBw5w9.out.size)
  have HBw8w10 : Hid (Below w8.heap.size w8 w10) := HBw8w9.out.trans ((hal).mono HBw8w9.out.size)
  have Hq3 : Hid ((partsM (tgs [1, 2, 3, 4] LL)).length = n ∧ Blk w10 q3 (ints9 (partsM (tgs [1, 2, 3, 4] LL))) 3) := ⟨hql, hq⟩
  clear hq hql hal CP HO
  clear ts
  clear HBww9 HBw2w9 HBw5w9 HBw8w9
  have HBw10w10 : Hid (Below w10.heap.size w10 w10) := Below.refl _ _
  obtain ⟨w11, hw11⟩ : ∃ w11, w10.alloc (.cells #[.int .i64 1] 3) = w11 := ⟨_, rfl⟩
  have halw11 : Below w10.heap.size w10 w11 := by rw [← hw11]; exact (Below.refl _ _).alloc (Nat.le_refl _) _
  have HBww11 : Hid (Below w.heap.size w w11) := HBww10.out.trans ((halw11).mono HBww10.out.size)
  have HBw2w11 : Hid (Below w2.heap.size w2 w11) := HBw2w10.out.trans ((halw11).mono HBw2w10.out.size)
  have HBw5w11 : Hid (Below w5.heap.size w5 w11) := HBw5w10.out.trans ((halw11).mono HBw5w10.out.size)
  have HBw8w11 : Hid (Below w8.heap.size w8 w11) := HBw8w10.out.trans ((halw11).mono HBw8w10.out.size)
  have HBw10w11 : Hid (Below w10.heap.size w10 w11) := HBw10w10.out.trans ((halw11).mono HBw10w10.out.size)
  have hkw11 : SlG encN 1 w11.heap.size w11 (.slice (some ⟨w10.heap.size, 0, none⟩) 1 1) [1] := by rw [← hw11]; exact slg_new w10 [1] rfl
  have CT : Hid (Calls Tryz.prog 56 #[.slice (some ⟨ob, 0, none⟩) n n, .slice (some ⟨q1, 0, none⟩) n n, .slice (some ⟨w10.heap.size, 0, none⟩) 1 1] w11 fun e w' => e = .returned (.bool (turnsM LL (partsM (tgs [1] LL)) [1])) ∧ Below w11.heap.size w11 w') := turns_any w1.heap.size ob vs LL n (partsM (tgs [1] LL)) q1 _ [1] w11 (HX.out w11 HBw2w11.out).1.o HL.out.1 HL.out.2.1 HL.out.2.2.1 HL.out.2.2.2 hkw11 (by decide) Hq1.out.1 (Hq1.out.2.on HBw5w11.out)
  obtain ⟨R1, hR1⟩ : ∃ R1, turnsM LL (partsM (tgs [1] LL)) [1] = R1 := ⟨_, rfl⟩
  have HER1 : Hid (turnsM LL (partsM (tgs [1] LL)) [1] = R1) := hR1
  rw [hR1] at CT
  clear hR1
  clear hkw11 halw11
  go_wp2_with fail
  clear hw11
  clear HBww10 HBw2w10 HBw5w10 HBw8w10
  refine CT.out.mono ?_
  rintro e w12 ⟨rfl, hal⟩
  have HBww12 : Hid (Below w.heap.size w w12) := HBww11.out.trans ((hal).mono HBww11.out.size)
  have HBw2w12 : Hid (Below w2.heap.size w2 w12) := HBw2w11.out.trans ((hal).mono HBw2w11.out.size)
  have HBw5w12 : Hid (Below w5.heap.size w5 w12) := HBw5w11.out.trans ((hal).mono HBw5w11.out.size)
  have HBw8w12 : Hid (Below w8.heap.size w8 w12) := HBw8w11.out.trans ((hal).mono HBw8w11.out.size)
  have HBw10w12 : Hid (Below w10.heap.size w10 w12) := HBw10w11.out.trans ((hal).mono HBw10w11.out.size)
  clear hal CT
  clear HBww11 HBw2w11 HBw5w11 HBw8w11 HBw10w11
  have CT : Hid (Calls Tryz.prog 57 #[.pointer (some ⟨d.s.hb, 0, none⟩)] w12 fun e w' => e = .returned (.bool ru) ∧ Below w12.heap.size w12 w') := HRU.out w12 (HX.out w12 HBw2w12.out).2.1
  go_wp2_with fail
  refine CT.out.mono ?_
  rintro e w13 ⟨rfl, hal⟩
  have HBww13 : Hid (Below w.heap.size w w13) := HBww12.out.trans ((hal).mono HBww12.out.size)
  have HBw2w13 : Hid (Below w2.heap.size w2 w13) := HBw2w12.out.trans ((hal).mono HBw2w12.out.size)
  have HBw5w13 : Hid (Below w5.heap.size w5 w13) := HBw5w12.out.trans ((hal).mono HBw5w12.out.size)
  have HBw8w13 : Hid (Below w8.heap.size w8 w13) := HBw8w12.out.trans ((hal).mono HBw8w12.out.size)
  have HBw10w13 : Hid (Below w10.heap.size w10 w13) := HBw10w12.out.trans ((hal).mono HBw10w12.out.size)
  clear hal CT
  clear HBww12 HBw2w12 HBw5w12 HBw8w12 HBw10w12
  have CT : Hid (Calls Tryz.prog 58 #[.pointer (some ⟨d.s.hb, 0, none⟩)] w13 fun e w' => e = .returned (.bool rb) ∧ Below w13.heap.size w13 w') := HRB.out w13 (HX.out w13 HBw2w13.out).2.1
  go_wp2_with fail
  refine CT.out.mono ?_
  rintro e w14 ⟨rfl, hal⟩
  have HBww14 : Hid (Below w.heap.size w w14) := HBww13.out.trans ((hal).mono HBww13.out.size)
  have HBw2w14 : Hid (Below w2.heap.size w2 w14) := HBw2w13.out.trans ((hal).mono HBw2w13.out.size)
  have HBw5w14 : Hid (Below w5.heap.size w5 w14) := HBw5w13.out.trans ((hal).mono HBw5w13.out.size)
  have HBw8w14 : Hid (Below w8.heap.size w8 w14) := HBw8w13.out.trans ((hal).mono HBw8w13.out.size)
  have HBw10w14 : Hid (Below w10.heap.size w10 w14) := HBw10w13.out.trans ((hal).mono HBw10w13.out.size)
  clear hal CT
  clear HBww13 HBw2w13 HBw5w13 HBw8w13 HBw10w13
  obtain ⟨w15, hw15⟩ : ∃ w15, w14.alloc (.cells #[.int .i64 1, .int .i64 2] 3) = w15 := ⟨_, rfl⟩
  have halw15 : Below w14.heap.size w14 w15 := by rw [← hw15]; exact (Below.refl _ _).alloc (Nat.le_refl _) _
  have HBww15 : Hid (Below w.heap.size w w15) := HBww14.out.trans ((halw15).mono HBww14.out.size)
  have HBw2w15 : Hid (Below w2.heap.size w2 w15) := HBw2w14.out.trans ((halw15).mono HBw2w14.out.size)
  have HBw5w15 : Hid (Below w5.heap.size w5 w15) := HBw5w14.out.trans ((halw15).mono HBw5w14.out.size)
  have HBw8w15 : Hid (Below w8.heap.size w8 w15) := HBw8w14.out.trans ((halw15).mono HBw8w14.out.size)
  have HBw10w15 : Hid (Below w10.heap.size w10 w15) := HBw10w14.out.trans ((halw15).mono HBw10w14.out.size)
  have hkw15 : SlG encN 1 w15.heap.size w15 (.slice (some ⟨w14.heap.size, 0, none⟩) 2 2) [1, 2] := by rw [← hw15]; exact slg_new w14 [1, 2] rfl
  have CT : Hid (Calls Tryz.prog 56 #[.slice (some ⟨ob, 0, none⟩) n n, .slice (some ⟨q2, 0, none⟩) n n, .slice (some ⟨w14.heap.size, 0, none⟩) 2 2] w15 fun e w' => e = .returned (.bool (turnsM LL (partsM (tgs [1, 2] LL)) [1, 2])) ∧ Below w15.heap.size w15 w') := turns_any w1.heap.size ob vs LL n (partsM (tgs [1, 2] LL)) q2 _ [1, 2] w15 (HX.out w15 HBw2w15.out).1.o HL.out.1 HL.out.2.1 HL.out.2.2.1 HL.out.2.2.2 hkw15 (by decide) Hq2.out.1 (Hq2.out.2.on HBw8w15.out)
  obtain ⟨R2, hR2⟩ : ∃ R2, turnsM LL (partsM (tgs [1, 2] LL)) [1, 2] = R2 := ⟨_, rfl⟩
  have HER2 : Hid (turnsM LL (partsM (tgs [1, 2] LL)) [1, 2] = R2) := hR2
  rw [hR2] at CT
  clear hR2
  clear hkw15 halw15
  go_wp2_with fail
  clear hw15
  clear HBww14 HBw2w14 HBw5w14 HBw8w14 HBw10w14
  refine CT.out.mono ?_
  rintro e w16 ⟨rfl, hal⟩
  have HBww16 : Hid (Below w.heap.size w w16) := HBww15.out.trans ((hal).mono HBww15.out.size)
  have HBw2w16 : Hid (Below w2.heap.size w2 w16) := HBw2w15.out.trans ((hal).mono HBw2w15.out.size)
  have HBw5w16 : Hid (Below w5.heap.size w5 w16) := HBw5w15.out.trans ((hal).mono HBw5w15.out.size)
  have HBw8w16 : Hid (Below w8.heap.size w8 w16) := HBw8w15.out.trans ((hal).mono HBw8w15.out.size)
  have HBw10w16 : Hid (Below w10.heap.size w10 w16) := HBw10w15.out.trans ((hal).mono HBw10w15.out.size)
  clear hal CT
  clear HBww15 HBw2w15 HBw5w15 HBw8w15 HBw10w15
  have CT : Hid (Calls Tryz.prog 59 #[.slice (some ⟨ob, 0, none⟩) n n] w16 fun e w' => e = .returned (.bool gs) ∧ Below w16.heap.size w16 w') := HSg.out w1.heap.size ob vs w16 (HX.out w16 HBw2w16.out).1
  go_wp2_with fail
  refine CT.out.mono ?_
  rintro e w17 ⟨rfl, hal⟩
  have HBww17 : Hid (Below w.heap.size w w17) := HBww16.out.trans ((hal).mono HBww16.out.size)
  have HBw2w17 : Hid (Below w2.heap.size w2 w17) := HBw2w16.out.trans ((hal).mono HBw2w16.out.size)
  have HBw5w17 : Hid (Below w5.heap.size w5 w17) := HBw5w16.out.trans ((hal).mono HBw5w16.out.size)
  have HBw8w17 : Hid (Below w8.heap.size w8 w17) := HBw8w16.out.trans ((hal).mono HBw8w16.out.size)
  have HBw10w17 : Hid (Below w10.heap.size w10 w17) := HBw10w16.out.trans ((hal).mono HBw10w16.out.size)
  clear hal CT
  clear HBww16 HBw2w16 HBw5w16 HBw8w16 HBw10w16
  obtain ⟨w18, hw18⟩ : ∃ w18, w17.alloc (.cells #[.int .i64 3] 3) = w18 := ⟨_, rfl⟩
  have halw18 : Below w17.heap.size w17 w18 := by rw [← hw18]; exact (Below.refl _ _).alloc (Nat.le_refl _) _
  have HBww18 : Hid (Below w.heap.size w w18) := HBww17.out.trans ((halw18).mono HBww17.out.size)
  have HBw2w18 : Hid (Below w2.heap.size w2 w18) := HBw2w17.out.trans ((halw18).mono HBw2w17.out.size)
  have HBw5w18 : Hid (Below w5.heap.size w5 w18) := HBw5w17.out.trans ((halw18).mono HBw5w17.out.size)
  have HBw8w18 : Hid (Below w8.heap.size w8 w18) := HBw8w17.out.trans ((halw18).mono HBw8w17.out.size)
  have HBw10w18 : Hid (Below w10.heap.size w10 w18) := HBw10w17.out.trans ((halw18).mono HBw10w17.out.size)
  have hkw18 : SlG encN 1 w18.heap.size w18 (.slice (some ⟨w17.heap.size, 0, none⟩) 1 1) [3] := by rw [← hw18]; exact slg_new w17 [3] rfl
  have CT : Hid (Calls Tryz.prog 56 #[.slice (some ⟨ob, 0, none⟩) n n, .slice (some ⟨q3, 0, none⟩) n n, .slice (some ⟨w17.heap.size, 0, none⟩) 1 1] w18 fun e w' => e = .returned (.bool (turnsM LL (partsM (tgs [1, 2, 3, 4] LL)) [3])) ∧ Below w18.heap.size w18 w') := turns_any w1.heap.size ob vs LL n (partsM (tgs [1, 2, 3, 4] LL)) q3 _ [3] w18 (HX.out w18 HBw2w18.out).1.o HL.out.1 HL.out.2.1 HL.out.2.2.1 HL.out.2.2.2 hkw18 (by decide) Hq3.out.1 (Hq3.out.2.on HBw10w18.out)
  obtain ⟨R3, hR3⟩ : ∃ R3, turnsM LL (partsM (tgs [1, 2, 3, 4] LL)) [3] = R3 := ⟨_, rfl⟩
  have HER3 : Hid (turnsM LL (partsM (tgs [1, 2, 3, 4] LL)) [3] = R3) := hR3
  rw [hR3] at CT
  clear hR3
  clear hkw18 halw18
  go_wp2_with fail
  clear hw18
  clear HBww17 HBw2w17 HBw5w17 HBw8w17 HBw10w17
  refine CT.out.mono ?_
  rintro e w19 ⟨rfl, hal⟩
  have HBww19 : Hid (Below w.heap.size w w19) := HBww18.out.trans ((hal).mono HBww18.out.size)
  have HBw2w19 : Hid (Below w2.heap.size w2 w19) := HBw2w18.out.trans ((hal).mono HBw2w18.out.size)
  have HBw5w19 : Hid (Below w5.heap.size w5 w19) := HBw5w18.out.trans ((hal).mono HBw5w18.out.size)
  have HBw8w19 : Hid (Below w8.heap.size w8 w19) := HBw8w18.out.trans ((hal).mono HBw8w18.out.size)
  have HBw10w19 : Hid (Below w10.heap.size w10 w19) := HBw10w18.out.trans ((hal).mono HBw10w18.out.size)
  clear hal CT
  clear HBww18 HBw2w18 HBw5w18 HBw8w18 HBw10w18
  obtain ⟨w20, hw20⟩ : ∃ w20, w19.alloc (.cells #[.int .i64 3, .int .i64 4] 3) = w20 := ⟨_, rfl⟩
  have halw20 : Below w19.heap.size w19 w20 := by rw [← hw20]; exact (Below.refl _ _).alloc (Nat.le_refl _) _
  have HBww20 : Hid (Below w.heap.size w w20) := HBww19.out.trans ((halw20).mono HBww19.out.size)
  have HBw2w20 : Hid (Below w2.heap.size w2 w20) := HBw2w19.out.trans ((halw20).mono HBw2w19.out.size)
  have HBw5w20 : Hid (Below w5.heap.size w5 w20) := HBw5w19.out.trans ((halw20).mono HBw5w19.out.size)
  have HBw8w20 : Hid (Below w8.heap.size w8 w20) := HBw8w19.out.trans ((halw20).mono HBw8w19.out.size)
  have HBw10w20 : Hid (Below w10.heap.size w10 w20) := HBw10w19.out.trans ((halw20).mono HBw10w19.out.size)
  have hkw20 : SlG encN 1 w20.heap.size w20 (.slice (some ⟨w19.heap.size, 0, none⟩) 2 2) [3, 4] := by rw [← hw20]; exact slg_new w19 [3, 4] rfl
  have CT : Hid (Calls Tryz.prog 56 #[.slice (some ⟨ob, 0, none⟩) n n, .slice (some ⟨q3, 0, none⟩) n n, .slice (some ⟨w19.heap.size, 0, none⟩) 2 2] w20 fun e w' => e = .returned (.bool (turnsM LL (partsM (tgs [1, 2, 3, 4] LL)) [3, 4])) ∧ Below w20.heap.size w20 w') := turns_any w1.heap.size ob vs LL n (partsM (tgs [1, 2, 3, 4] LL)) q3 _ [3, 4] w20 (HX.out w20 HBw2w20.out).1.o HL.out.1 HL.out.2.1 HL.out.2.2.1 HL.out.2.2.2 hkw20 (by decide) Hq3.out.1 (Hq3.out.2.on HBw10w20.out)
  obtain ⟨R4, hR4⟩ : ∃ R4, turnsM LL (partsM (tgs [1, 2, 3, 4] LL)) [3, 4] = R4 := ⟨_, rfl⟩
  have HER4 : Hid (turnsM LL (partsM (tgs [1, 2, 3, 4] LL)) [3, 4] = R4) := hR4
  rw [hR4] at CT
  clear hR4
  clear hkw20 halw20
  go_wp2_with fail
  clear hw20
  clear HBww19 HBw2w19 HBw5w19 HBw8w19 HBw10w19
  refine CT.out.mono ?_
  rintro e w21 ⟨rfl, hal⟩
  have HBww21 : Hid (Below w.heap.size w w21) := HBww20.out.trans ((hal).mono HBww20.out.size)
  have HBw2w21 : Hid (Below w2.heap.size w2 w21) := HBw2w20.out.trans ((hal).mono HBw2w20.out.size)
  have HBw5w21 : Hid (Below w5.heap.size w5 w21) := HBw5w20.out.trans ((hal).mono HBw5w20.out.size)
  have HBw8w21 : Hid (Below w8.heap.size w8 w21) := HBw8w20.out.trans ((hal).mono HBw8w20.out.size)
  have HBw10w21 : Hid (Below w10.heap.size w10 w21) := HBw10w20.out.trans ((hal).mono HBw10w20.out.size)
  clear hal CT
  clear HBww20 HBw2w20 HBw5w20 HBw8w20 HBw10w20
  have HKc : Hid (Blk w21 w.heap.size #[.bool false, .bool false, .bool false, .bool false, .bool false, .bool false, .bool false] 34) := (HX.out w21 HBw2w21.out).2.2
  have z0 := HKc.out.cell (i := 0) rfl
  have y0 := HKc.out.frozen 0
  have z1 := HKc.out.cell (i := 1) rfl
  have y1 := HKc.out.frozen 1
  have z2 := HKc.out.cell (i := 2) rfl
  have y2 := HKc.out.frozen 2
  have z3 := HKc.out.cell (i := 3) rfl
  have y3 := HKc.out.frozen 3
  have z4 := HKc.out.cell (i := 4) rfl
  have y4 := HKc.out.frozen 4
  have z5 := HKc.out.cell (i := 5) rfl
  have y5 := HKc.out.frozen 5
  have z6 := HKc.out.cell (i := 6) rfl
  have y6 := HKc.out.frozen 6
  go_wp2_with fail
  have HFr : Hid (Frm w21 (((((((w21.setCell ⟨w.heap.size, 0, none⟩ (.bool R1)).setCell ⟨w.heap.size, 1, none⟩ (.bool ru)).setCell ⟨w.heap.size, 2, none⟩ (.bool rb)).setCell ⟨w.heap.size, 3, none⟩ (.bool R2)).setCell ⟨w.heap.size, 4, none⟩ (.bool gs)).setCell ⟨w.heap.size, 5, none⟩ (.bool R3)).setCell ⟨w.heap.size, 6, none⟩ (.bool R4)) (one1 w.heap.size) ∧ Blk (((((((w21.setCell ⟨w.heap.size, 0, none⟩ (.bool R1)).setCell ⟨w.heap.size, 1, none⟩ (.bool ru)).setCell ⟨w.heap.size, 2, none⟩ (.bool rb)).setCell ⟨w.heap.size, 3, none⟩ (.bool R2)).setCell ⟨w.heap.size, 4, none⟩ (.bool gs)).setCell ⟨w.heap.size, 5, none⟩ (.bool R3)).setCell ⟨w.heap.size, 6, none⟩ (.bool R4)) w.heap.size #[.bool R1, .bool ru, .bool rb, .bool R2, .bool gs, .bool R3, .bool R4] 34) := ⟨((((((((Frm.refl w21 (one1 w.heap.size)).trans (frm_set _ w.heap.size 0 _ (F := one1 w.heap.size) (.inl rfl)) (fun k h => .inl h)).trans (frm_set _ w.heap.size 1 _ (F := one1 w.heap.size) (.inl rfl)) (fun k h => .inl h)).trans (frm_set _ w.heap.size 2 _ (F := one1 w.heap.size) (.inl rfl)) (fun k h => .inl h)).trans (frm_set _ w.heap.size 3 _ (F := one1 w.heap.size) (.inl rfl)) (fun k h => .inl h)).trans (frm_set _ w.heap.size 4 _ (F := one1 w.heap.size) (.inl rfl)) (fun k h => .inl h)).trans (frm_set _ w.heap.size 5 _ (F := one1 w.heap.size) (.inl rfl)) (fun k h => .inl h)).trans (frm_set _ w.heap.size 6 _ (F := one1 w.heap.size) (.inl rfl)) (fun k h => .inl h)), (((((((HKc.out.set 0 _).set 1 _).set 2 _).set 3 _).set 4 _).set 5 _).set 6 _)⟩
  generalize (((((((w21.setCell ⟨w.heap.size, 0, none⟩ (.bool R1)).setCell ⟨w.heap.size, 1, none⟩ (.bool ru)).setCell ⟨w.heap.size, 2, none⟩ (.bool rb)).setCell ⟨w.heap.size, 3, none⟩ (.bool R2)).setCell ⟨w.heap.size, 4, none⟩ (.bool gs)).setCell ⟨w.heap.size, 5, none⟩ (.bool R3)).setCell ⟨w.heap.size, 6, none⟩ (.bool R4)) = wz at *
  have x0 : wz.cell? ⟨w.heap.size, 0, none⟩ = some (.bool R1) := HFr.out.2.cell rfl
  have x1 : wz.cell? ⟨w.heap.size, 1, none⟩ = some (.bool ru) := HFr.out.2.cell rfl
  have x2 : wz.cell? ⟨w.heap.size, 2, none⟩ = some (.bool rb) := HFr.out.2.cell rfl
  have x3 : wz.cell? ⟨w.heap.size, 3, none⟩ = some (.bool R2) := HFr.out.2.cell rfl
  have x4 : wz.cell? ⟨w.heap.size, 4, none⟩ = some (.bool gs) := HFr.out.2.cell rfl
  have x5 : wz.cell? ⟨w.heap.size, 5, none⟩ = some (.bool R3) := HFr.out.2.cell rfl
  have x6 : wz.cell? ⟨w.heap.size, 6, none⟩ = some (.bool R4) := HFr.out.2.cell rfl
  refine bodyPost_ret (v := phV R1 ru rb R2 gs R3 R4) (by simp [results, Tryz.results29, go_sem, x0, x1, x2, x3, x4, x5, x6]) rfl ?_
  exact ⟨by rw [HER1.out, HER2.out, HER3.out, HER4.out], HBww21.out.trans (HFr.out.1.below HBww21.out.size (fun k h => by rw [show k = w.heap.size from h]; exact Nat.le_refl _))⟩

end Go.Proofs.YtncfejndmlcidaaGreat

namespace Go.Proofs.YtncfejndmlcidaaGreat
open Go.RowKit
set_option maxRecDepth 100000

set_option maxHeartbeats 4000000 in
theorem order0_any (v : Value) (tb : Nat) (w : World) (hv : v = .slice (some ⟨tb, 0, none⟩) 0 0) :
    Calls Tryz.prog 63 #[v] w fun e w' => e = .returned (.slice none 0 0) ∧ Below w.heap.size w w' := by
  subst hv
  have HMk : Hid (∀ w9 : World, (Instr.makeSlice 38 (.int .i64 ((0 : Nat) : Int)) (.int .i64 ((0 : Nat) : Int))).run Tryz.prog w9 = .ok (.slice (some ⟨w9.heap.size, 0, none⟩) 0 0) (w9.alloc (.cells (Array.replicate 0 (.int .i64 0)) 3))) := run_mk1 38 3 (.int .i64 0) 8 info_int9 rfl Tryz.underlying38 (by omega) 0 (by omega)
  obtain ⟨w1, hw1⟩ : ∃ w1, w.alloc (.cells #[] 3) = w1 := ⟨_, rfl⟩
  have HB1 : Hid (Below w.heap.size w w1) := by rw [← hw1]; exact (Below.refl _ _).alloc (Nat.le_refl _) _
  go_enter Tryz.func63, Tryz.ntmps63
  have hmk : ∀ w9 : World, (Instr.makeSlice 38 (.int .i64 0) (.int .i64 0)).run Tryz.prog w9 = .ok (.slice (some ⟨w9.heap.size, 0, none⟩) 0 0) (w9.alloc (.cells #[] 3)) := HMk.out
  go_wp2_with fail
  clear hw1
  go_loopw [22] (fun ix wr => ix = .int .i64 0 ∧ w1 = wr) (fun ix _ => 0)
  case atStart => exact ⟨by go_num, rfl⟩
  case round =>
    obtain ⟨rfl, rfl⟩ := hrel
    go_wp2_with fail
    go_loopw [42, 8] (fun ix l wr => ix = .int .i64 0 ∧ l = .slice none 0 0 ∧ w1 = wr) (fun ix _ _ => 0)
    case atStart => exact ⟨by go_num, rfl, rfl⟩
    case round =>
      obtain ⟨rfl, rfl, rfl⟩ := hrel
      go_wp2_with fail
      go_loopw [8, 9] (fun a b wr => a = .slice none 0 0 ∧ b = .slice none 0 0 ∧ w1 = wr) (fun _ _ _ => 0)
      case atStart => exact ⟨rfl, rfl, rfl⟩
      case round =>
        obtain ⟨rfl, rfl, rfl⟩ := hrel
        go_wp2_with fail
        go_ret
        exact ⟨rfl, HB1.out⟩
theorem Dn.len0 {w : World} {B : Nat} {H : List Ac} {d : Dv} (h : Dn w B H d) {q : Option Addr} {n c : Nat} (e : d.s.vC = .slice q n c) : n = d.C.length := by
  have hsl : SlG (encT d.s.pt) 1 w.heap.size w d.s.vC d.C := OwnG.sl (T := 102) (B := B) (fun _ => rfl) h.own
  rw [e] at hsl
  obtain ⟨p', c', e', _⟩ := hsl.f
  exact (Value.slice.inj e').2.1
theorem Dn.shC {w : World} {B : Nat} {H : List Ac} {d : Dv} (h : Dn w B H d) : ∃ q c, d.s.vC = .slice q d.C.length c := by
  have hsl : SlG (encT d.s.pt) 1 w.heap.size w d.s.vC d.C := OwnG.sl (T := 102) (B := B) (fun _ => rfl) h.own
  obtain ⟨p', c', e', _⟩ := hsl.f
  exact ⟨p', c', e'⟩
set_option maxHeartbeats 4000000 in
theorem serial0_any (N B : Nat) (H : List Ac) (d : Dv) (uns : Int → List (List Ed) → List (List Ed)) (w : World) (hR : RdD w N B H d) (hF : Fin H d.s d) (hH : OkF H) (hU : UnsF H d uns) (hI : d.I.length ≤ 4096) (hsn : snN H ≤ 4096) (hlt : EdLt d.C.length (edM d H uns)) (hs : ∀ t, scs H t = []) (hC : d.C = []) :
    Calls Tryz.prog 34 #[.pointer (some ⟨d.s.hb, 0, none⟩)] w fun e w' => e = .returned (.tuple #[.slice none 0 0, .int .i64 0]) ∧ Below w.heap.size w w' := by
  have C1 : Hid (Calls Tryz.prog 57 #[.pointer (some ⟨d.s.hb, 0, none⟩)] w fun e w' => e = .returned (.bool false) ∧ Below w.heap.size w w') := by
    have h1 := readsU_any N B H d w hH hF hs hR
    rw [hC] at h1
    exact h1
  have C2 : Hid (∀ W, Below w.heap.size w W → Calls Tryz.prog 58 #[.pointer (some ⟨d.s.hb, 0, none⟩)] W fun e w' => e = .returned (.bool false) ∧ Below W.heap.size W w') := fun W hb => by
    have h1 := readsB_any N B H d W hH hF hs (hR.on (hb.mono hR.size))
    rw [hC] at h1
    exact h1
  have hn : d.C.length = 0 := by rw [hC]; rfl
  have C3 : Hid (∀ W, Below w.heap.size w W → Calls Tryz.prog 47 #[.pointer (some ⟨d.s.hb, 0, none⟩)] W fun e w' => ∃ ob vs, e = .returned (.slice (some ⟨ob, 0, none⟩) 0 0) ∧ EdK w' W.heap.size ob vs (edM d H uns) 0 ∧ Below W.heap.size W w') := fun W hb => by
    refine (edges_any N B H d uns W (hR.on (hb.mono hR.size)) hF hH hU hI hsn).mono ?_
    rintro e w' ⟨ob, vs, he, hO, hb'⟩
    rw [hn] at he
    have h1 := edM_len hU
    rw [hn] at h1 hlt
    exact ⟨ob, vs, he, ⟨hO, h1, by omega, edM_l hU hH.len hsn hI (by rw [hn]; omega), hlt⟩, hb'⟩
  obtain ⟨q, c, ec⟩ := hR.dn.shC
  rw [hn] at ec
  have C4 : Hid (∀ W, Below w.heap.size w W → W.cell? ⟨d.s.hb, 2, none⟩ = some (.slice q 0 c)) := fun W hb => by
    have h1 := (hR.on (hb.mono hR.size)).dn.blk.cell (i := 2) rfl
    rw [h1, ec]
    rfl
  generalize edM d H uns = LL at *
  generalize d.s.hb = hb at *
  clear hR hF hH hU hI hsn hlt hs hC hn ec
  go_enter Tryz.func34, Tryz.ntmps34
  go_wp2_with fail
  refine C1.out.mono ?_
  rintro e w2 ⟨rfl, hal⟩
  have HBww2 : Hid (Below w.heap.size w w2) := hal
  clear hal C1
  have C2' := C2.out w2 HBww2.out
  go_wp2_with fail
  refine C2'.mono ?_
  rintro e w3 ⟨rfl, hal⟩
  have HBww3 : Hid (Below w.heap.size w w3) := HBww2.out.trans (hal.mono HBww2.out.size)
  clear hal C2' C2 HBww2
  have C3' := C3.out w3 HBww3.out
  go_wp2_with fail
  refine C3'.mono ?_
  rintro e w4 ⟨ob, vs, rfl, hK, hal⟩
  have HBww4 : Hid (Below w.heap.size w w4) := HBww3.out.trans (hal.mono HBww3.out.size)
  have CT : Hid (Calls Tryz.prog 55 #[.slice (some ⟨ob, 0, none⟩) (0 : Nat) (0 : Nat)] w4 fun e w' => ∃ tb ts, e = .returned (.slice (some ⟨tb, 0, none⟩) (0 : Nat) (0 : Nat)) ∧ OutN w' w4.heap.size tb ts (tgs [1, 2, 3, 4] LL) ∧ Below w4.heap.size w4 w') := allTargets_any w3.heap.size ob vs LL 0 w4 hK
  clear hal C3' C3 hK
  go_wp2_with fail
  refine CT.out.mono ?_
  rintro e w5 ⟨tb, ts, rfl, -, hal⟩
  have HBww5 : Hid (Below w.heap.size w w5) := HBww4.out.trans (hal.mono HBww4.out.size)
  clear hal CT HBww4 HBww3
  have CO := order0_any (.slice (some ⟨tb, 0, none⟩) 0 0) tb w5 rfl
  go_wp2_with fail
  refine CO.mono ?_
  rintro e w6 ⟨rfl, hal⟩
  have HBww6 : Hid (Below w.heap.size w w6) := HBww5.out.trans (hal.mono HBww5.out.size)
  clear hal CO HBww5
  have x0 := C4.out w6 HBww6.out
  go_wp2_with fail
  go_loopw [28, 5] (fun ix l wr => ix = .int .i64 0 ∧ l = .slice none 0 0 ∧ w6 = wr) (fun ix _ _ => 0)
  case atStart => exact ⟨by go_num, rfl, rfl⟩
  case round =>
    obtain ⟨rfl, rfl, rfl⟩ := hrel
    go_wp2_with fail
    refine bodyPost_ret (v := .tuple #[.slice none 0 0, .int .i64 0]) (by simp [results, Tryz.results34, go_sem]) rfl ?_
    exact ⟨rfl, HBww6.out⟩

end Go.Proofs.YtncfejndmlcidaaGreat
