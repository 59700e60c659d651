/- ChainKeeps: the law's walk. -/
import Derived.Test.YteddpogjpohacaaWAwk8
import Derived.Test.YteddpogjpohacaaMKep8
import Derived.Test.YteddpogjpohacaaLPrn8
import Derived.Test.YteddpogjpohacaaLSee8
namespace Go.Proofs.Yteddpogjpohacaa
open Go.RowKit
set_option maxRecDepth 100000

set_option maxHeartbeats 2000000 in
theorem sees_any (L : List Rw) (p : Option Addr) (c : Nat) (s : Int) (w : World) (hR : RdR .u64 w w.heap.size p L) (hlen : L.length ≤ 3518437208780) (hsh : shortR L) :
    Calls Try.prog 35 #[.slice p L.length c, .int .u64 s] w fun e w' => (∃ v', e = .returned (.tuple #[v', .bool (shwB (seeR L [] 0 0 s))]) ∧ OwnV w' w.heap.size v' (shwL (seeR L [] 0 0 s))) ∧ Below w.heap.size w w' := by
  have C1 : Hid (Calls Try.prog 32 #[.slice p L.length c, .agg #[.int .i64 0, .slice none 0 0], .int .i64 0, .int .u64 s] w fun e w' => (∃ v', e = .returned (.tuple #[v', .bool (shwB (seeR L [] 0 0 s))]) ∧ OwnV w' w.heap.size v' (shwL (seeR L [] 0 0 s))) ∧ Below w.heap.size w w') := see_any L [] p none c 0 0 0 s w hR (RdR.nil _ _ _) hlen (by simp) hsh (fun i hi => absurd hi (by simp))
  clear hR hsh
  generalize shwB (seeR L [] 0 0 s) = rb at *
  generalize shwL (seeR L [] 0 0 s) = rl at *
  go_enter Try.func35, Try.ntmps35
  go_wp2_with fail
  refine C1.out.mono ?_
  rintro e w1 ⟨⟨v, rfl, ho⟩, hb⟩
  go_wp2_with fail
  go_ret2
  exact ⟨⟨v, rfl, ho⟩, hb⟩

set_option maxHeartbeats 8000000 in
theorem lawKeeps (L : List Rw) (p : Option Addr) (c : Nat) (s l : Int) (w : World) (hR : RdR .u64 w w.heap.size p L) (hlen : L.length ≤ 3518437208780) (hsh : shortR L) (hs : 0 ≤ s ∧ s ≤ 18446744073709551615) (hl : 0 ≤ l ∧ l ≤ 18446744073709551615) :
    Calls Try.prog 8 #[.slice p L.length c, .int .u64 s, .int .u64 l] w fun e w' => e = .returned (.bool true) ∧ Below w.heap.size w w' := by
  have HR : Hid (∀ w1, Below w.heap.size w w1 → RdR .u64 w1 w1.heap.size p L) := fun w1 h => hR.on h
  have C1 : Hid (Calls _ _ _ _ _) := may_any L p c w hR (by omega)
  have CA : Hid (∀ w1 : World, Calls Try.prog 12 #[] w1 fun e w' => e = .returned (.bool true) ∧ Below w1.heap.size w1 w') := awake_any
  have C2 : Hid (∀ w1, Below w.heap.size w w1 → Calls Try.prog 22 #[.slice p L.length c, .int .u64 s] w1 fun e w' => (∃ v Z, e = .returned (.tuple #[v, .int .i64 ((L.length - (prnL L s).length : Nat) : Int)]) ∧ Z.map Prod.fst = prnL L s ∧ OwnRs .u64 36 w' w1.heap.size v Z) ∧ Below w1.heap.size w1 w') := fun w1 h => prune_any L p c s w1 (HR.out w1 h) (by omega) hsh
  have HSh : Hid (shortR L) := hsh
  cases hm : mayL L with
  | false =>
    rw [hm] at C1
    clear hR HR hm
    go_enter Try.func8, Try.ntmps8
    go_wp2_with fail
    refine C1.out.mono ?_
    rintro e w1 ⟨rfl, hb1⟩
    go_wp2_with fail
    refine (CA.out _).mono ?_
    rintro e w2 ⟨rfl, hb2⟩
    go_wp2_with fail
    go_ret
    exact ⟨rfl, hb1.trans (hb2.mono hb1.size)⟩
  | true =>
    rw [hm] at C1
    have HT : Hid (_ ∨ _) := ins_top s hm
    have hPl := prnL_len L s
    have hlenP : (prnL L s).length ≤ 3518437208780 := by omega
    have HPs : Hid (shortR (prnL L s)) := shortR_prn hsh s
    have HPm : Hid (chkL (prnL L s) = 0) := by
      show chkL _ = 0
      unfold chkL
      rw [may_prn hm]
      rfl
    have HPa : Hid (prnL (prnL L s) s = prnL L s) := prn_again hm s
    have HSe : Hid (∀ t, s ≤ t → shwB (seeR (prnL L s) [] 0 0 t) = shwB (seeR L [] 0 0 t) ∧ shwL (seeR (prnL L s) [] 0 0 t) = shwL (seeR L [] 0 0 t)) := fun t ht => seen_prn hm ht
    have HSl : Hid (∀ t, (shwL (seeR L [] 0 0 t)).length ≤ 17592186043904) := fun t => shwL_short hsh (fun i hi => absurd hi (by simp))
    generalize hP : prnL L s = P at *
    clear hm hsh hR
    go_enter Try.func8, Try.ntmps8
    go_wp2_with fail
    refine C1.out.mono ?_
    rintro e w1 ⟨rfl, hb1⟩
    have HB1 : Hid (Below w.heap.size w w1) := hb1
    clear hb1 C1
    go_wp2_with fail
    refine (C2.out _ HB1.out).mono ?_
    rintro e w2 ⟨⟨va, Za, rfl, hZa, hOa⟩, hb2⟩
    obtain ⟨pa, ca, rfl, _, hra⟩ := hOa.rd hZa
    have HB2 : Hid (Below w.heap.size w w2) := HB1.out.trans (hb2.mono HB1.out.size)
    have HRa : Hid (RdR .u64 w2 w2.heap.size pa P) := hra
    clear hb2 hOa hZa hra HB1 C2
    have CK : Hid (Calls _ _ _ _ _) := check_any P pa ca w2 HRa.out (by omega)
    rw [HPm.out] at CK
    have hsub : ((L.length - P.length : Nat) : Int) = (L.length : Int) - (P.length : Int) := by omega
    rw [hsub]
    go_wp2_with fail
    refine CK.out.mono ?_
    rintro e w3 ⟨rfl, hb3⟩
    have HB3 : Hid (Below w.heap.size w w3) := HB2.out.trans (hb3.mono HB2.out.size)
    have HRa3 : Hid (RdR .u64 w3 w3.heap.size pa P) := HRa.out.on hb3
    clear hb3 HB2 HRa CK
    have HX : Hid (s ≤ 18446744073709551615 ∧ l ≤ 18446744073709551615 ∧ 0 ≤ s ∧ 0 ≤ l) := ⟨hs.2, hl.2, hs.1, hl.1⟩
    clear hs hl
    go_wp2_with fail
    · have HST : Hid (s ≤ s) := Int.le_refl _
      have HSR : Hid (∀ w1, Below w.heap.size w w1 → Calls Try.prog 35 #[.slice p L.length c, .int .u64 s] w1 fun e w' => (∃ v', e = .returned (.tuple #[v', .bool (shwB (seeR L [] 0 0 s))]) ∧ OwnV w' w1.heap.size v' (shwL (seeR L [] 0 0 s))) ∧ Below w1.heap.size w1 w') := fun w1 h => sees_any L p c s w1 (HR.out w1 h) hlen HSh.out
      have HSP : Hid (∀ w1, RdR .u64 w1 w1.heap.size pa P → Calls Try.prog 35 #[.slice pa P.length ca, .int .u64 s] w1 fun e w' => (∃ v', e = .returned (.tuple #[v', .bool (shwB (seeR L [] 0 0 s))]) ∧ OwnV w' w1.heap.size v' (shwL (seeR L [] 0 0 s))) ∧ Below w1.heap.size w1 w') := fun w1 h => by
        have h9 := sees_any P pa ca s w1 h hlenP HPs.out
        rw [(HSe.out s HST.out).1, (HSe.out s HST.out).2] at h9
        exact h9
      have HSl2 : Hid ((shwL (seeR L [] 0 0 s)).length ≤ 17592186043904) := HSl.out s
      clear HSe HSl HST
      generalize shwB (seeR L [] 0 0 s) = rb at *
      generalize shwL (seeR L [] 0 0 s) = rl at *
      refine (HSR.out _ HB3.out).mono ?_
      rintro e w4 ⟨⟨v4, rfl, ho4⟩, hb4⟩
      obtain ⟨q4, c4, rfl, hr4, _⟩ := ho4.sl
      have HB4 : Hid (Below w.heap.size w w4) := HB3.out.trans (hb4.mono HB3.out.size)
      have HRa4 : Hid (RdR .u64 w4 w4.heap.size pa P) := HRa3.out.on hb4
      have HR4 : Hid (RowV w4 w4.heap.size q4 rl) := hr4
      clear hb4 HB3 HRa3 ho4 hr4 HSR
      go_wp2_with fail
      refine (HSP.out _ HRa4.out).mono ?_
      rintro e w5 ⟨⟨v5, rfl, ho5⟩, hb5⟩
      obtain ⟨q5, c5, rfl, hr5, _⟩ := ho5.sl
      have HB5 : Hid (Below w.heap.size w w5) := HB4.out.trans (hb5.mono HB4.out.size)
      have HRa5 : Hid (RdR .u64 w5 w5.heap.size pa P) := HRa4.out.on hb5
      have CS : Hid (Calls _ _ _ _ _) := sameRow_eq rl q4 q5 c4 c5 w5 (HR4.out.on hb5) hr5 HSl2.out
      clear hb5 HB4 HRa4 HR4 ho5 hr5 HSP
      go_wp2_with fail
      refine CS.out.mono ?_
      rintro e w6 ⟨rfl, hb6⟩
      have HB6 : Hid (Below w.heap.size w w6) := HB5.out.trans (hb6.mono HB5.out.size)
      have HRa6 : Hid (RdR .u64 w6 w6.heap.size pa P) := HRa5.out.on hb6
      clear hb6 HB5 HRa5 CS
      have CP2 : Hid (Calls Try.prog 22 #[.slice pa P.length ca, .int .u64 s] w6 fun e w' => (∃ v Z, e = .returned (.tuple #[v, .int .i64 0]) ∧ Z.map Prod.fst = P ∧ OwnRs .u64 36 w' w6.heap.size v Z) ∧ Below w6.heap.size w6 w') := by
        have h9 := prune_any P pa ca s w6 HRa6.out (by omega) HPs.out
        rw [HPa.out, Nat.sub_self] at h9
        exact h9
      go_wp2_with fail
      refine CP2.out.mono ?_
      rintro e w7 ⟨⟨v7, Z7, rfl, hZ7, hO7⟩, hb7⟩
      obtain ⟨pb, cb, rfl, _, hrb⟩ := hO7.rd hZ7
      have HB7 : Hid (Below w.heap.size w w7) := HB6.out.trans (hb7.mono HB6.out.size)
      have HRa7 : Hid (RdR .u64 w7 w7.heap.size pa P) := HRa6.out.on hb7
      have CS2 : Hid (Calls _ _ _ _ _) := sameChain_eq P pa pb ca cb w7 HRa7.out hrb (by omega) HPs.out
      clear hb7 HB6 HRa6 hO7 hZ7 hrb CP2
      go_wp2_with fail
      refine CS2.out.mono ?_
      rintro e w8 ⟨rfl, hb8⟩
      have hB8 : Below w.heap.size w w8 := HB7.out.trans (hb8.mono HB7.out.size)
      have HRa8 : Hid (RdR .u64 w8 w8.heap.size pa P) := HRa7.out.on hb8
      clear hb8 HB7 HRa7 CS2
      have HX9 : Hid (Box (w8.alloc (.cells #[.int .u64 4611686018427387904, .bool false, .slice none 0 0] 36)) w8.heap.size _ _) := Box.new w8 #[.int .u64 4611686018427387904, .bool false, .slice none 0 0] 36
      have hb89 : Below w8.heap.size w8 (w8.alloc (.cells #[.int .u64 4611686018427387904, .bool false, .slice none 0 0] 36)) := (Below.refl _ _).alloc (Nat.le_refl _) _
      have HB9 : Hid (Below w.heap.size w (w8.alloc (.cells #[.int .u64 4611686018427387904, .bool false, .slice none 0 0] 36))) := hB8.trans (hb89.mono hB8.size)
      have HRa9 : Hid (RdR .u64 _ _ pa P) := HRa8.out.on hb89
      clear hB8 HRa8 hb89
      go_wp2_with fail
      generalize w8.alloc (.cells #[.int .u64 4611686018427387904, .bool false, .slice none 0 0] 36) = w9 at *
      have CI : Hid (Calls Try.prog 19 #[.slice p L.length c, .agg #[.int .u64 4611686018427387904, .bool false, .slice none 0 0]] w9 fun e w' => (∃ v Z, e = .returned (.tuple #[v, .int .i64 (insE L topV)]) ∧ Z.map Prod.fst = insL L topV ∧ OwnRs .u64 36 w' w9.heap.size v Z) ∧ Below w9.heap.size w9 w') := install_any L p c 4611686018427387904 false [] none 0 w9 (HR.out w9 HB9.out) (OwnV.nil _ 0).sl hlen HSh.out (by simp)
      refine CI.out.mono ?_
      rintro e wa ⟨⟨vc, Zc, rfl, hZc, hOc⟩, hba⟩
      have HBa : Hid (Below w.heap.size w wa) := HB9.out.trans (hba.mono HB9.out.size)
      have HRaa : Hid (RdR .u64 wa wa.heap.size pa P) := HRa9.out.on hba
      have hXa := HX9.out.on hba
      obtain ⟨⟨x0, x1, x2⟩, _⟩ := box3 hXa
      obtain ⟨pc, cc, rfl, _, hrc⟩ := hOc.rd hZc
      have HRc : Hid (RdR .u64 wa wa.heap.size pc (insL L topV)) := hrc
      clear hba HB9 HRa9 hOc hZc hrc CI HX9 hXa
      have CJ : Hid (Calls Try.prog 19 #[.slice pa P.length ca, .agg #[.int .u64 4611686018427387904, .bool false, .slice none 0 0]] wa fun e w' => (∃ v Z, e = .returned (.tuple #[v, .int .i64 (insE P topV)]) ∧ Z.map Prod.fst = insL P topV ∧ OwnRs .u64 36 w' wa.heap.size v Z) ∧ Below wa.heap.size wa w') := install_any P pa ca 4611686018427387904 false [] none 0 wa HRaa.out (OwnV.nil _ 0).sl hlenP HPs.out (by simp)
      go_wp2_with fail
      refine CJ.out.mono ?_
      rintro e wb ⟨⟨vd, Zd, rfl, hZd, hOd⟩, hbb⟩
      have HBb : Hid (Below w.heap.size w wb) := HBa.out.trans (hbb.mono HBa.out.size)
      obtain ⟨pd, cd, rfl, _, hrd⟩ := hOd.rd hZd
      have HRd : Hid (RdR .u64 wb wb.heap.size pd (insL P topV)) := hrd
      have HRcb : Hid (RdR .u64 wb wb.heap.size pc (insL L topV)) := HRc.out.on hbb
      clear hbb HBa HRaa hOd hZd hrd CJ x0 x1 x2 HRc
      rcases HT.out with ⟨e1, e2, e3, e4, e5⟩ | ⟨e1, hl0, e2⟩
      · rw [e1, e3]
        rw [e2] at HRcb ⊢
        rw [e4] at HRd ⊢
        have HShT : Hid (shortR (topV :: L) ∧ shortR (topV :: P)) := ⟨fun i hi => by cases i with | zero => simp [topV] | succ i => exact HSh.out i (by simpa using hi), fun i hi => by cases i with | zero => simp [topV] | succ i => exact HPs.out i (by simpa using hi)⟩
        have HE5 : Hid (prnL (topV :: P) s = prnL (topV :: L) s) := e5
        clear e1 e2 e3 e4 e5 HT
        have hlT : (topV :: L).length ≤ 3518437208781 := by rw [List.length_cons]; omega
        have CPc : Hid (Calls Try.prog 22 #[.slice pc (topV :: L).length cc, .int .u64 s] wb fun e w' => (∃ v Z, e = .returned (.tuple #[v, .int .i64 (((topV :: L).length - (prnL (topV :: L) s).length : Nat) : Int)]) ∧ Z.map Prod.fst = prnL (topV :: L) s ∧ OwnRs .u64 36 w' wb.heap.size v Z) ∧ Below wb.heap.size wb w') := prune_any (topV :: L) pc cc s wb HRcb.out (by omega) HShT.out.1
        have HPl : Hid ((prnL (topV :: L) s).length ≤ 17592186043904 ∧ shortR (prnL (topV :: L) s)) := ⟨by have := prnL_len (topV :: L) s; omega, shortR_prn HShT.out.1 s⟩
        have CPd : Hid (∀ w1, RdR .u64 w1 w1.heap.size pd (topV :: P) → Calls Try.prog 22 #[.slice pd (topV :: P).length cd, .int .u64 s] w1 fun e w' => (∃ v Z, e = .returned (.tuple #[v, .int .i64 (((topV :: P).length - (prnL (topV :: L) s).length : Nat) : Int)]) ∧ Z.map Prod.fst = prnL (topV :: L) s ∧ OwnRs .u64 36 w' w1.heap.size v Z) ∧ Below w1.heap.size w1 w') := fun w1 h => by
          have h9 := prune_any (topV :: P) pd cd s w1 h (by rw [List.length_cons]; omega) HShT.out.2
          rw [HE5.out] at h9
          exact h9
        generalize prnL (topV :: L) s = M at *
        go_wp2_with fail
        refine CPc.out.mono ?_
        rintro e we ⟨⟨ve, Ze, rfl, hZe, hOe⟩, hbe⟩
        have HBe : Hid (Below w.heap.size w we) := HBb.out.trans (hbe.mono HBb.out.size)
        obtain ⟨pe, ce, rfl, _, hre⟩ := hOe.rd hZe
        have HRe : Hid (RdR .u64 we we.heap.size pe M) := hre
        have HRde : Hid (RdR .u64 we we.heap.size pd (topV :: P)) := HRd.out.on hbe
        clear hbe HBb hOe hZe hre CPc HRd
        go_wp2_with fail
        refine (CPd.out _ HRde.out).mono ?_
        rintro e wf ⟨⟨vf, Zf, rfl, hZf, hOf⟩, hbf⟩
        have HBf : Hid (Below w.heap.size w wf) := HBe.out.trans (hbf.mono HBe.out.size)
        obtain ⟨pf, cf, rfl, _, hrf⟩ := hOf.rd hZf
        have CSf : Hid (Calls _ _ _ _ _) := sameChain_eq M pe pf ce cf wf (HRe.out.on hbf) hrf HPl.out.1 HPl.out.2
        clear hbf HBe hOf hZf hrf CPd HRe HRde
        go_wp2_with fail
        refine CSf.out.mono ?_
        rintro e wg ⟨rfl, hbg⟩
        have HBg : Hid (Below w.heap.size w wg) := HBf.out.trans (hbg.mono HBf.out.size)
        clear hbg HBf CSf
        go_wp2_with fail
        refine (CA.out _).mono ?_
        rintro e wh ⟨rfl, hbh⟩
        have HBh : Hid (Below w.heap.size w wh) := HBg.out.trans (hbh.mono HBg.out.size)
        clear hbh HBg
        go_wp2_with fail
        go_ret
        exact ⟨rfl, HBh.out⟩
      · rw [e1]
        have HR0 : Hid (RdR .u64 wb wb.heap.size p L) := HR.out wb HBb.out
        obtain ⟨b, o, q1, d1, hp, hbB, c0, _⟩ := HR0.out 0 hl0
        subst hp
        rw [e2] at c0
        simp only [Nat.zero_mul, Nat.add_zero] at c0
        have hl' : decide ((0 : Int) < (L.length : Int)) = true := decide_eq_true (by omega)
        go_wp2_with fail
        go_ret
        exact ⟨rfl, HBb.out⟩
    · generalize IntKind.u64.wrap (s + l) = t at *
      have HST : Hid (s ≤ t) := by
        show s ≤ t
        first | assumption | omega
      have HSR : Hid (∀ w1, Below w.heap.size w w1 → Calls Try.prog 35 #[.slice p L.length c, .int .u64 t] w1 fun e w' => (∃ v', e = .returned (.tuple #[v', .bool (shwB (seeR L [] 0 0 t))]) ∧ OwnV w' w1.heap.size v' (shwL (seeR L [] 0 0 t))) ∧ Below w1.heap.size w1 w') := fun w1 h => sees_any L p c t w1 (HR.out w1 h) hlen HSh.out
      have HSP : Hid (∀ w1, RdR .u64 w1 w1.heap.size pa P → Calls Try.prog 35 #[.slice pa P.length ca, .int .u64 t] w1 fun e w' => (∃ v', e = .returned (.tuple #[v', .bool (shwB (seeR L [] 0 0 t))]) ∧ OwnV w' w1.heap.size v' (shwL (seeR L [] 0 0 t))) ∧ Below w1.heap.size w1 w') := fun w1 h => by
        have h9 := sees_any P pa ca t w1 h hlenP HPs.out
        rw [(HSe.out t HST.out).1, (HSe.out t HST.out).2] at h9
        exact h9
      have HSl2 : Hid ((shwL (seeR L [] 0 0 t)).length ≤ 17592186043904) := HSl.out t
      clear HSe HSl HST
      generalize shwB (seeR L [] 0 0 t) = rb at *
      generalize shwL (seeR L [] 0 0 t) = rl at *
      refine (HSR.out _ HB3.out).mono ?_
      rintro e w4 ⟨⟨v4, rfl, ho4⟩, hb4⟩
      obtain ⟨q4, c4, rfl, hr4, _⟩ := ho4.sl
      have HB4 : Hid (Below w.heap.size w w4) := HB3.out.trans (hb4.mono HB3.out.size)
      have HRa4 : Hid (RdR .u64 w4 w4.heap.size pa P) := HRa3.out.on hb4
      have HR4 : Hid (RowV w4 w4.heap.size q4 rl) := hr4
      clear hb4 HB3 HRa3 ho4 hr4 HSR
      go_wp2_with fail
      refine (HSP.out _ HRa4.out).mono ?_
      rintro e w5 ⟨⟨v5, rfl, ho5⟩, hb5⟩
      obtain ⟨q5, c5, rfl, hr5, _⟩ := ho5.sl
      have HB5 : Hid (Below w.heap.size w w5) := HB4.out.trans (hb5.mono HB4.out.size)
      have HRa5 : Hid (RdR .u64 w5 w5.heap.size pa P) := HRa4.out.on hb5
      have CS : Hid (Calls _ _ _ _ _) := sameRow_eq rl q4 q5 c4 c5 w5 (HR4.out.on hb5) hr5 HSl2.out
      clear hb5 HB4 HRa4 HR4 ho5 hr5 HSP
      go_wp2_with fail
      refine CS.out.mono ?_
      rintro e w6 ⟨rfl, hb6⟩
      have HB6 : Hid (Below w.heap.size w w6) := HB5.out.trans (hb6.mono HB5.out.size)
      have HRa6 : Hid (RdR .u64 w6 w6.heap.size pa P) := HRa5.out.on hb6
      clear hb6 HB5 HRa5 CS
      have CP2 : Hid (Calls Try.prog 22 #[.slice pa P.length ca, .int .u64 s] w6 fun e w' => (∃ v Z, e = .returned (.tuple #[v, .int .i64 0]) ∧ Z.map Prod.fst = P ∧ OwnRs .u64 36 w' w6.heap.size v Z) ∧ Below w6.heap.size w6 w') := by
        have h9 := prune_any P pa ca s w6 HRa6.out (by omega) HPs.out
        rw [HPa.out, Nat.sub_self] at h9
        exact h9
      go_wp2_with fail
      refine CP2.out.mono ?_
      rintro e w7 ⟨⟨v7, Z7, rfl, hZ7, hO7⟩, hb7⟩
      obtain ⟨pb, cb, rfl, _, hrb⟩ := hO7.rd hZ7
      have HB7 : Hid (Below w.heap.size w w7) := HB6.out.trans (hb7.mono HB6.out.size)
      have HRa7 : Hid (RdR .u64 w7 w7.heap.size pa P) := HRa6.out.on hb7
      have CS2 : Hid (Calls _ _ _ _ _) := sameChain_eq P pa pb ca cb w7 HRa7.out hrb (by omega) HPs.out
      clear hb7 HB6 HRa6 hO7 hZ7 hrb CP2
      go_wp2_with fail
      refine CS2.out.mono ?_
      rintro e w8 ⟨rfl, hb8⟩
      have hB8 : Below w.heap.size w w8 := HB7.out.trans (hb8.mono HB7.out.size)
      have HRa8 : Hid (RdR .u64 w8 w8.heap.size pa P) := HRa7.out.on hb8
      clear hb8 HB7 HRa7 CS2
      have HX9 : Hid (Box (w8.alloc (.cells #[.int .u64 4611686018427387904, .bool false, .slice none 0 0] 36)) w8.heap.size _ _) := Box.new w8 #[.int .u64 4611686018427387904, .bool false, .slice none 0 0] 36
      have hb89 : Below w8.heap.size w8 (w8.alloc (.cells #[.int .u64 4611686018427387904, .bool false, .slice none 0 0] 36)) := (Below.refl _ _).alloc (Nat.le_refl _) _
      have HB9 : Hid (Below w.heap.size w (w8.alloc (.cells #[.int .u64 4611686018427387904, .bool false, .slice none 0 0] 36))) := hB8.trans (hb89.mono hB8.size)
      have HRa9 : Hid (RdR .u64 _ _ pa P) := HRa8.out.on hb89
      clear hB8 HRa8 hb89
      go_wp2_with fail
      generalize w8.alloc (.cells #[.int .u64 4611686018427387904, .bool false, .slice none 0 0] 36) = w9 at *
      have CI : Hid (Calls Try.prog 19 #[.slice p L.length c, .agg #[.int .u64 4611686018427387904, .bool false, .slice none 0 0]] w9 fun e w' => (∃ v Z, e = .returned (.tuple #[v, .int .i64 (insE L topV)]) ∧ Z.map Prod.fst = insL L topV ∧ OwnRs .u64 36 w' w9.heap.size v Z) ∧ Below w9.heap.size w9 w') := install_any L p c 4611686018427387904 false [] none 0 w9 (HR.out w9 HB9.out) (OwnV.nil _ 0).sl hlen HSh.out (by simp)
      refine CI.out.mono ?_
      rintro e wa ⟨⟨vc, Zc, rfl, hZc, hOc⟩, hba⟩
      have HBa : Hid (Below w.heap.size w wa) := HB9.out.trans (hba.mono HB9.out.size)
      have HRaa : Hid (RdR .u64 wa wa.heap.size pa P) := HRa9.out.on hba
      have hXa := HX9.out.on hba
      obtain ⟨⟨x0, x1, x2⟩, _⟩ := box3 hXa
      obtain ⟨pc, cc, rfl, _, hrc⟩ := hOc.rd hZc
      have HRc : Hid (RdR .u64 wa wa.heap.size pc (insL L topV)) := hrc
      clear hba HB9 HRa9 hOc hZc hrc CI HX9 hXa
      have CJ : Hid (Calls Try.prog 19 #[.slice pa P.length ca, .agg #[.int .u64 4611686018427387904, .bool false, .slice none 0 0]] wa fun e w' => (∃ v Z, e = .returned (.tuple #[v, .int .i64 (insE P topV)]) ∧ Z.map Prod.fst = insL P topV ∧ OwnRs .u64 36 w' wa.heap.size v Z) ∧ Below wa.heap.size wa w') := install_any P pa ca 4611686018427387904 false [] none 0 wa HRaa.out (OwnV.nil _ 0).sl hlenP HPs.out (by simp)
      go_wp2_with fail
      refine CJ.out.mono ?_
      rintro e wb ⟨⟨vd, Zd, rfl, hZd, hOd⟩, hbb⟩
      have HBb : Hid (Below w.heap.size w wb) := HBa.out.trans (hbb.mono HBa.out.size)
      obtain ⟨pd, cd, rfl, _, hrd⟩ := hOd.rd hZd
      have HRd : Hid (RdR .u64 wb wb.heap.size pd (insL P topV)) := hrd
      have HRcb : Hid (RdR .u64 wb wb.heap.size pc (insL L topV)) := HRc.out.on hbb
      clear hbb HBa HRaa hOd hZd hrd CJ x0 x1 x2 HRc
      rcases HT.out with ⟨e1, e2, e3, e4, e5⟩ | ⟨e1, hl0, e2⟩
      · rw [e1, e3]
        rw [e2] at HRcb ⊢
        rw [e4] at HRd ⊢
        have HShT : Hid (shortR (topV :: L) ∧ shortR (topV :: P)) := ⟨fun i hi => by cases i with | zero => simp [topV] | succ i => exact HSh.out i (by simpa using hi), fun i hi => by cases i with | zero => simp [topV] | succ i => exact HPs.out i (by simpa using hi)⟩
        have HE5 : Hid (prnL (topV :: P) s = prnL (topV :: L) s) := e5
        clear e1 e2 e3 e4 e5 HT
        have hlT : (topV :: L).length ≤ 3518437208781 := by rw [List.length_cons]; omega
        have CPc : Hid (Calls Try.prog 22 #[.slice pc (topV :: L).length cc, .int .u64 s] wb fun e w' => (∃ v Z, e = .returned (.tuple #[v, .int .i64 (((topV :: L).length - (prnL (topV :: L) s).length : Nat) : Int)]) ∧ Z.map Prod.fst = prnL (topV :: L) s ∧ OwnRs .u64 36 w' wb.heap.size v Z) ∧ Below wb.heap.size wb w') := prune_any (topV :: L) pc cc s wb HRcb.out (by omega) HShT.out.1
        have HPl : Hid ((prnL (topV :: L) s).length ≤ 17592186043904 ∧ shortR (prnL (topV :: L) s)) := ⟨by have := prnL_len (topV :: L) s; omega, shortR_prn HShT.out.1 s⟩
        have CPd : Hid (∀ w1, RdR .u64 w1 w1.heap.size pd (topV :: P) → Calls Try.prog 22 #[.slice pd (topV :: P).length cd, .int .u64 s] w1 fun e w' => (∃ v Z, e = .returned (.tuple #[v, .int .i64 (((topV :: P).length - (prnL (topV :: L) s).length : Nat) : Int)]) ∧ Z.map Prod.fst = prnL (topV :: L) s ∧ OwnRs .u64 36 w' w1.heap.size v Z) ∧ Below w1.heap.size w1 w') := fun w1 h => by
          have h9 := prune_any (topV :: P) pd cd s w1 h (by rw [List.length_cons]; omega) HShT.out.2
          rw [HE5.out] at h9
          exact h9
        generalize prnL (topV :: L) s = M at *
        go_wp2_with fail
        refine CPc.out.mono ?_
        rintro e we ⟨⟨ve, Ze, rfl, hZe, hOe⟩, hbe⟩
        have HBe : Hid (Below w.heap.size w we) := HBb.out.trans (hbe.mono HBb.out.size)
        obtain ⟨pe, ce, rfl, _, hre⟩ := hOe.rd hZe
        have HRe : Hid (RdR .u64 we we.heap.size pe M) := hre
        have HRde : Hid (RdR .u64 we we.heap.size pd (topV :: P)) := HRd.out.on hbe
        clear hbe HBb hOe hZe hre CPc HRd
        go_wp2_with fail
        refine (CPd.out _ HRde.out).mono ?_
        rintro e wf ⟨⟨vf, Zf, rfl, hZf, hOf⟩, hbf⟩
        have HBf : Hid (Below w.heap.size w wf) := HBe.out.trans (hbf.mono HBe.out.size)
        obtain ⟨pf, cf, rfl, _, hrf⟩ := hOf.rd hZf
        have CSf : Hid (Calls _ _ _ _ _) := sameChain_eq M pe pf ce cf wf (HRe.out.on hbf) hrf HPl.out.1 HPl.out.2
        clear hbf HBe hOf hZf hrf CPd HRe HRde
        go_wp2_with fail
        refine CSf.out.mono ?_
        rintro e wg ⟨rfl, hbg⟩
        have HBg : Hid (Below w.heap.size w wg) := HBf.out.trans (hbg.mono HBf.out.size)
        clear hbg HBf CSf
        go_wp2_with fail
        refine (CA.out _).mono ?_
        rintro e wh ⟨rfl, hbh⟩
        have HBh : Hid (Below w.heap.size w wh) := HBg.out.trans (hbh.mono HBg.out.size)
        clear hbh HBg
        go_wp2_with fail
        go_ret
        exact ⟨rfl, HBh.out⟩
      · rw [e1]
        have HR0 : Hid (RdR .u64 wb wb.heap.size p L) := HR.out wb HBb.out
        obtain ⟨b, o, q1, d1, hp, hbB, c0, _⟩ := HR0.out 0 hl0
        subst hp
        rw [e2] at c0
        simp only [Nat.zero_mul, Nat.add_zero] at c0
        have hl' : decide ((0 : Int) < (L.length : Int)) = true := decide_eq_true (by omega)
        go_wp2_with fail
        go_ret
        exact ⟨rfl, HBb.out⟩
end Go.Proofs.Yteddpogjpohacaa
