/- The law StoreBack. -/
import Derived.Test.YtcibcfghkidncaaGreatDoorGWTb
namespace Go.Proofs.YtcibcfghkidncaaGreatDoor
open Go.RowKit Go.Lib
set_option maxRecDepth 100000

set_option maxHeartbeats 8000000 in
theorem lawStoBack (A:List AcR) (pA:Option Addr) (cA:Nat) (Wr:List AcR) (pW:Option Addr) (cW:Nat) (tx:Int) (w:World) (hT:Tab w) (hg : 1 < w.heap.size) (hA:RdA w w.heap.size pA A) (hk:∀ a ∈ A,a.ok) (hl:A.length ≤ 1759218604442) (hWr:RdA w w.heap.size pW Wr) (hkw:∀ a ∈ Wr,a.ok) (hlw:Wr.length ≤ 1759218604442) (ht1:-9223372036854775808 ≤ tx) (ht2:tx < 9223372036854775808) :
  Calls Tryz.prog 6 #[.slice pA A.length cA,.slice pW Wr.length cW,.int .i64 tx] w fun e w' => e = .returned (.bool true) ∧ Below w.heap.size w w' := by
 have C1:Hid (Calls Tryz.prog 13 #[.int .i64 64,.slice pA A.length cA] w fun e w' => ∃ v,e = .returned (.tuple #[ptr1 (w.heap.size + 1),.agg #[.int .i64 64,v],.bool true]) ∧ PS none1 w' (w.heap.size + 1) (w.heap.size + 1) 64 (runM 64 A) (65537 * A.length) A.length v ∧ Below w.heap.size w w') := made_ok 64 A pA cA w hT hg (by omega) (by omega) hA hk hl
 have HM:Hid (∀ w2,Below w.heap.size w w2 → Calls Tryz.prog 13 #[.int .i64 64,.slice pA A.length cA] w2 fun e w' => ∃ v,e = .returned (.tuple #[ptr1 (w2.heap.size + 1),.agg #[.int .i64 64,v],.bool true]) ∧ PS none1 w' (w2.heap.size + 1) (w2.heap.size + 1) 64 (runM 64 A) (65537 * A.length) A.length v ∧ Below w2.heap.size w2 w') := fun w2 hb => made_ok 64 A pA cA w2 (hT.keep hb hg) (Nat.lt_of_lt_of_le hg hb.size) (by omega) (by omega) ((hA.keep hb).mono hb.size) hk hl
 have HG:Hid (1 < w.heap.size) := hg
 have HT:Hid (Tab w) := hT
 have HWr:Hid (RdA w w.heap.size pW Wr) := hWr
 have HKw:Hid (∀ a ∈ Wr,a.ok) := hkw
 clear hT hg hA hk hWr hkw
 obtain ⟨n,hn⟩:∃ n,A.length = n := ⟨_,rfl⟩
 rw [hn] at hl C1 HM
 rw [hn]
 clear hn
 obtain ⟨k,hkk⟩:∃ k,Wr.length = k := ⟨_,rfl⟩
 have HKl:Hid (Wr.length = k) := hkk
 rw [hkk] at hlw
 rw [hkk]
 clear hkk
 have HL:Hid (n ≤ 1759218604442 ∧ k ≤ 1759218604442) := ⟨hl,hlw⟩
 have HTx:Hid (-9223372036854775808 ≤ tx ∧ tx < 9223372036854775808) := ⟨ht1,ht2⟩
 clear hl hlw ht1 ht2
 go_enter Tryz.func6,Tryz.ntmps6
 go_wp2_with fail
 refine C1.out.mono ?_
 rintro e w1 ⟨v1,rfl,hp1,hb1⟩
 obtain ⟨p1,n1,c1,e1⟩:∃ p1 n1 c1,v1 = .slice p1 n1 c1 := by obtain ⟨p1,c1,e1,_⟩ := hp1.doc.len; exact ⟨p1,_,c1,e1⟩
 subst e1
 obtain ⟨bX,bB,-⟩ := one_new w1 #[.int .i64 64,.slice p1 n1 c1] 29
 have HP0:Hid (PS none1 (w1.alloc (.cells #[.int .i64 64,.slice p1 n1 c1] 29)) (w.heap.size + 1) (w.heap.size + 1) 64 (runM 64 A) (65537 * n) n (.slice p1 n1 c1) ∧ Below w.heap.size w (w1.alloc (.cells #[.int .i64 64,.slice p1 n1 c1] 29))) := ⟨hp1.on bB,hb1.trans (bB.mono hb1.size)⟩
 clear hp1 hb1 bX bB C1
 go_upto_region 2 with fail
 generalize (w1.alloc (.cells #[.int .i64 64,.slice p1 n1 c1] 29)) = w2 at *
 generalize w1.heap.size = b0 at *
 go_wp2_with fail
 refine (HM.out w2 HP0.out.2).mono ?_
 rintro e w3 ⟨v3,rfl,hp3,hb3⟩
 obtain ⟨p3,n3,c3,e3⟩:∃ p3 n3 c3,v3 = .slice p3 n3 c3 := by obtain ⟨p3,c3,e3,_⟩ := hp3.doc.len; exact ⟨p3,_,c3,e3⟩
 subst e3
 obtain ⟨bX,bB,-⟩ := one_new w3 #[.int .i64 64,.slice p3 n3 c3] 29
 have HT0:Hid (TB w (w3.alloc (.cells #[.int .i64 64,.slice p3 n3 c3] 29)) (w.heap.size + 1) (w2.heap.size + 1) w3.heap.size (runM 64 A) (65537 * n) n (runM 64 A) (65537 * n) n (docL (runM 64 A)) (.slice p3 n3 c3)) := by
  obtain ⟨F1,hs1,_⟩ := HP0.out.1.sto
  obtain ⟨F2,hs2,_⟩ := hp3.sto
  have hb9 := hb3.trans (bB.mono hb3.size)
  have hsz := HP0.out.2.size
  refine ⟨⟨F1,F2,hs1.on hb9,hs2.on bB,fun k h1 h2 => ?_,fun h1 => ?_,fun h2 => ?_⟩,hp3.doc.on bB,bX,HT.out.keep (HP0.out.2.trans (hb9.mono hsz)) HG.out,HP0.out.2.trans (hb9.mono hsz),⟨by omega,by omega,?_⟩,HG.out⟩
  ·have g1 := (hs1.mut h1).2.2
   have g2 := (hs2.mut h2).2.1
   omega
  ·have g1 := (hs1.mut h1).2.2
   have g2 := hb3.size
   omega
  ·have g1 := (hs2.mut h2).2.2
   omega
  ·have g2 := hb3.size
   omega
 have HW2:Hid (w.heap.size ≤ w2.heap.size) := HP0.out.2.size
 clear hp3 hb3 bX bB HM HP0
 go_upto_region 3 with fail
 generalize (w3.alloc (.cells #[.int .i64 64,.slice p3 n3 c3] 29)) = w4 at *
 generalize w3.heap.size = bm at *
 generalize w2.heap.size + 1 = b2 at *
 have CT:Hid (Calls Tryz.prog 17 #[ptr1 b2,.int .i64 tx,.int .i64 0] w4 fun e w' => (∃ v,e = .returned v) ∧ TB w w' (w.heap.size + 1) b2 bm (runM 64 A) (65537 * n) n (mapT (bakR 0) tx (runM 64 A)) (65537 * n + 65537) n (docL (runM 64 A)) (.slice p3 n3 c3)) := HT0.out.s2 (Q := fun e => ∃ v,e = .returned v) (fun F hF => (backS_any _ _ 64 _ _ _ F tx 0 _ hF HTx.out.1 HTx.out.2 (by have h1 := HL.out; omega) (by have h1 := HL.out; omega)).mono fun e w9 ⟨v',G,F',h1,_,_,_,h5,h6,_,h8⟩ => ⟨⟨_,h1⟩,⟨F',h5,h6⟩,h8⟩)
 go_wp2_with fail
 refine CT.out.mono ?_
 rintro e w5 ⟨⟨v5,rfl⟩,hT5⟩
 have HT5:Hid (TB w w5 (w.heap.size + 1) b2 bm (runM 64 A) (65537 * n) n (mapT (bakR 0) tx (runM 64 A)) (65537 * n + 65537) n (docL (runM 64 A)) (.slice p3 n3 c3)) := hT5
 clear hT5 CT HT0
 have CD:Hid (Calls Tryz.prog 18 #[.agg #[.int .i64 64,.slice p3 n3 c3],.int .i64 tx,.int .i64 0] w5 fun e w' => (∃ v' gv,e = .returned (.tuple #[.agg #[.int .i64 64,v'],gv]) ∧ DocS w' w5.heap.size v' (outL (atT tx (bakR 0)) (docL (runM 64 A))) ∧ OwnI w' w5.heap.size gv (goneL (atT tx (bakR 0)) (docL (runM 64 A)))) ∧ Below w5.heap.size w5 w') := backD_any _ 64 n _ (docL (runM 64 A)) tx 0 w5 HT5.out.doc (fun q hq => docL_ok HT5.out.ok1.1 hq) (by have h1 := docL_len (runM 64 A); have h2 := HT5.out.ok1.2; omega) (by have h1 := HL.out; omega)
 obtain ⟨m0,m1,_,_⟩ := box2 HT5.out.m
 go_wp2_with fail
 refine CD.out.mono ?_
 rintro e w6 ⟨⟨v6,gv,rfl,hd6,_⟩,hb6⟩
 obtain ⟨p6,n6,c6,e6⟩:∃ p6 n6 c6,v6 = .slice p6 n6 c6 := by obtain ⟨p6,c6,e6,_⟩ := hd6.len; exact ⟨p6,_,c6,e6⟩
 subst e6
 rw [← docL_atT] at hd6
 have HT6:Hid (TB w ((w6.setCell ⟨bm,0,none⟩ (.int .i64 64)).setCell ⟨bm,1,none⟩ (.slice p6 n6 c6)) (w.heap.size + 1) b2 bm (runM 64 A) (65537 * n) n (mapT (bakR 0) tx (runM 64 A)) (65537 * n + 65537) n (docL (mapT (bakR 0) tx (runM 64 A))) (.slice p6 n6 c6)) := (HT5.out.on hb6).lay (hd6.base (by obtain ⟨F1,F2,h1,h2,_⟩ := HT5.out.st; have h3 := (h2.mut h2.self).2.2; omega))
 obtain ⟨_,_,m2,m3⟩ := box2 (HT5.out.on hb6).m
 clear m0 m1 hd6 hb6 CD HT5
 go_upto_region 7 with fail
 generalize (w6.setCell ⟨bm,0,none⟩ (.int .i64 64)).setCell ⟨bm,1,none⟩ (.slice p6 n6 c6) = w7 at *
 have HOk:Hid (∀ r ∈ runM 64 A,OkR n r) := HT6.out.ok1.1
 obtain ⟨JJ,hJJ⟩:∃ JJ,n ≤ JJ ∧ k ≤ JJ ∧ JJ ≤ 1759218604442 := ⟨max n k,by have h1 := HL.out; omega⟩
 have HJ:Hid (n ≤ JJ ∧ k ≤ JJ ∧ JJ ≤ 1759218604442) := hJJ
 clear hJJ
 have CS:Hid (Calls Tryz.prog 17 #[ptr1 (w.heap.size + 1),.int .i64 tx,.int .i64 0] w7 fun e w' => (∃ v,e = .returned v) ∧ TB w w' (w.heap.size + 1) b2 bm (mapT (bakR 0) tx (runM 64 A)) (65537 * n + 65537) n (mapT (bakR 0) tx (runM 64 A)) (65537 * n + 65537) n (docL (mapT (bakR 0) tx (runM 64 A))) (.slice p6 n6 c6)) := HT6.out.s1 (Q := fun e => ∃ v,e = .returned v) (fun F hF => (backS_any _ _ 64 _ _ _ F tx 0 _ hF HTx.out.1 HTx.out.2 (by have h1 := HL.out; omega) (by have h1 := HL.out; omega)).mono fun e w9 ⟨v',G,F',h1,_,_,_,h5,h6,_,h8⟩ => ⟨⟨_,h1⟩,⟨F',h5,h6⟩,h8⟩)
 clear m2 m3
 go_wp2_with fail
 refine CS.out.mono ?_
 rintro e w8 ⟨⟨v8,rfl⟩,hT8⟩
 have HT8:Hid (TB w w8 (w.heap.size + 1) b2 bm (mapT (bakR 0) tx (runM 64 A)) (65537 * n + 65537) JJ (mapT (bakR 0) tx (runM 64 A)) (65537 * n + 65537) n (docL (mapT (bakR 0) tx (runM 64 A))) (.slice p6 n6 c6)) := hT8.mono1 (Nat.le_refl _) HJ.out.1
 have HS8:Hid (SamO tx (mapT (bakR 0) tx (runM 64 A)) (runM 64 A)) := fun x => by
  rw [map_off HOk.out,getD_map (off_nil tx),off_off]
 have HN8:Hid (∀ r ∈ (mapT (bakR 0) tx (runM 64 A)),NW n 0 tx r) := fun r hr => by
  rw [map_off HOk.out] at hr
  obtain ⟨r0,h0,rfl⟩ := List.mem_map.1 hr
  exact NW.les (HOk.out r0 h0)
 clear hT8 CS HT6
 go_wp2_with fail
 go_loopw [13] (fun i wq => ∃ (j:Nat) (M:List Rs) (Kj:Nat),j ≤ k ∧ i = .int .i64 (j:Int) ∧ Hid (Kj = 65537 * n + 65537 + 2 * j) ∧ Hid (TB w wq (w.heap.size + 1) b2 bm M Kj JJ (mapT (bakR 0) tx (runM 64 A)) (65537 * n + 65537) n (docL (mapT (bakR 0) tx (runM 64 A))) (.slice p6 n6 c6)) ∧ Hid (SamO tx M (runM 64 A)) ∧ Hid (∀ r ∈ M,NW n j tx r)) (fun i _ => k - (intOf i).toNat)
 case atStart => exact ⟨0,_,_,Nat.zero_le _,by go_num,rfl,HT8,HS8,HN8⟩
 case round =>
  obtain ⟨j,M,Kj,hj,rfl,HK,HTj,HS,HN⟩ := hrel
  clear HT8 HS8 HN8
  by_cases hj0:j = k
  ·subst hj0
   have CB:Hid (Calls Tryz.prog 17 #[ptr1 (w.heap.size + 1),.int .i64 tx,.int .i64 0] wr fun e w' => (∃ v,e = .returned v) ∧ TB w w' (w.heap.size + 1) b2 bm (mapT (bakR 0) tx M) (Kj + 65537) JJ (mapT (bakR 0) tx (runM 64 A)) (65537 * n + 65537) n (docL (mapT (bakR 0) tx (runM 64 A))) (.slice p6 n6 c6)) := HTj.out.s1 (Q := fun e => ∃ v,e = .returned v) (fun F hF => (backS_any _ _ 64 _ _ _ F tx 0 _ hF HTx.out.1 HTx.out.2 (by have h1 := HL.out; have h2 := HK.out; omega) (by have h1 := HJ.out; omega)).mono fun e w9 ⟨v',G,F',h1,_,_,_,h5,h6,_,h8⟩ => ⟨⟨_,h1⟩,⟨F',h5,h6⟩,h8⟩)
   have HD:Hid (docL (mapT (bakR 0) tx M) = docL (mapT (bakR 0) tx (runM 64 A))) := HS.out.doc HTj.out.ok1.1 HOk.out
   go_wp2_with fail
   refine CB.out.mono ?_
   rintro e w9 ⟨⟨v9,rfl⟩,hT9⟩
   have HT9:Hid (TB w w9 (w.heap.size + 1) b2 bm (mapT (bakR 0) tx M) (Kj + 65537) JJ (mapT (bakR 0) tx (runM 64 A)) (65537 * n + 65537) n (docL (mapT (bakR 0) tx M)) (.slice p6 n6 c6)) := by rw [HD.out]; exact hT9
   clear hT9 CB
   have C9:Hid (Calls _ _ _ _ _) := HT9.out.is1 (by have h1 := HJ.out; omega)
   obtain ⟨m0,m1,_,_⟩ := box2 HT9.out.m
   go_wp2_with fail
   refine C9.out.mono ?_
   rintro e w10 ⟨rfl,hT10⟩
   have HT10:Hid (TB w w10 (w.heap.size + 1) b2 bm (mapT (bakR 0) tx M) (Kj + 65537) JJ (mapT (bakR 0) tx (runM 64 A)) (65537 * n + 65537) n (docL (mapT (bakR 0) tx (runM 64 A))) (.slice p6 n6 c6)) := by rw [← HD.out]; exact hT10
   clear hT10 C9 m0 m1
   have C10:Hid (Calls _ _ _ _ _) := HT10.out.is2 (by have h1 := HL.out; omega)
   obtain ⟨m0,m1,_,_⟩ := box2 HT10.out.m
   go_wp2_with fail
   refine C10.out.mono ?_
   rintro e w11 ⟨rfl,hT11,hb11⟩
   have C11:Hid (Calls _ _ _ _ _) := awake11 w11 hT11 (Nat.lt_of_lt_of_le HG.out hb11.size)
   have HB11:Hid (Below w.heap.size w w11) := hb11
   clear hT11 hb11 C10 m0 m1
   go_wp2_with fail
   refine C11.out.mono ?_
   rintro e w12 ⟨rfl,hb12⟩
   have HB12:Hid (Below w.heap.size w w12) := HB11.out.trans (hb12.mono HB11.out.size)
   clear hb12
   go_wp2_with fail
   go_ret
   exact ⟨rfl,HB12.out⟩
  ·have hj1:j < Wr.length := by rw [HKl.out]; omega
   have hjk:j < k := by omega
   obtain ⟨b,o,q5,c5,e,⟨k0,k1,k2,k3,k4,k5,k6,k7⟩,hV⟩ := HWr.out.at HTj.out.bel hj1
   subst e
   have hok := HKw.out _ (List.getElem_mem hj1)
   have hrow := hok.row
   clear hok
   generalize Wr[j].k = x0 at *
   generalize Wr[j].sl = x1 at *
   generalize Wr[j].tx = x2 at *
   generalize Wr[j].st = x6 at *
   generalize Wr[j].lv = x7 at *
   obtain ⟨x3,x4,vr,ev⟩:∃ x3 x4 vr,Wr[j].v = ⟨x3,x4,vr⟩ := ⟨_,_,_,rfl⟩
   rw [ev] at k3 k4 k5 hV hrow
   dsimp only at k3 k4 k5 hV hrow
   clear ev hj1
   have CO:Hid (∀ w1,SlV w1 w1.heap.size (.slice q5 vr.length c5) vr → Calls Tryz.prog 20 #[.agg #[.int .i64 x3,.bool x4,.slice q5 vr.length c5]] w1 fun e w' => (∃ q' c',e = .returned (.agg #[.int .i64 x3,.bool x4,.slice q' vr.length c']) ∧ SlV w' w'.heap.size (.slice q' vr.length c') vr) ∧ Below w1.heap.size w1 w') := fun w1 hv => own_any x3 x4 vr q5 c5 w1 hv hrow
   have HKb:Hid (Kj + 2 ≤ 8000000000000000000) := by have h1 := HK.out; have h2 := HL.out; have h3:Kj + 2 ≤ 8000000000000000000 := (by omega); exact h3
   have CA:Hid (∀ w1 q3 c3,TB w w1 (w.heap.size + 1) b2 bm M Kj JJ (mapT (bakR 0) tx (runM 64 A)) (65537 * n + 65537) n (docL (mapT (bakR 0) tx (runM 64 A))) (.slice p6 n6 c6) → SlV w1 w1.heap.size (.slice q3 vr.length c3) vr → Calls Tryz.prog 19 #[ptr1 (w.heap.size + 1),.int .i64 tx,.agg #[.int .i64 x3,.bool x4,.slice q3 vr.length c3]] w1 fun e w' => (∃ v,e = .returned v) ∧ TB w w' (w.heap.size + 1) b2 bm (addX 64 M tx ⟨x3,x4,vr⟩) (Kj + 2) JJ (mapT (bakR 0) tx (runM 64 A)) (65537 * n + 65537) n (docL (mapT (bakR 0) tx (runM 64 A))) (.slice p6 n6 c6)) := fun w1 q3 c3 h hv => (h.s1 (Q := fun e => ∃ v,e = .returned v) (fun F hF => (add_all _ _ 64 _ _ _ F tx x3 x4 vr q3 c3 _ hF hv hrow HTx.out.1 HTx.out.2 h.tab (Nat.lt_trans HG.out (Nat.lt_succ_self _)) HKb.out).mono fun e w9 h9 => ⟨⟨_,h9.1⟩,h9.2⟩)).mono fun e w' h9 => ⟨h9.1,h9.2.jset1 (fun r hr => (NW.addX HN.out ⟨x3,x4,vr⟩ r hr).ok (h9.2.ok1.1 r hr) HJ.out.1 (by have h1 := HJ.out; omega))⟩
   have CW:Hid (∀ w1 q3 c3,TB w w1 (w.heap.size + 1) b2 bm M Kj JJ (mapT (bakR 0) tx (runM 64 A)) (65537 * n + 65537) n (docL (mapT (bakR 0) tx (runM 64 A))) (.slice p6 n6 c6) → SlV w1 w1.heap.size (.slice q3 vr.length c3) vr → Calls Tryz.prog 21 #[ptr1 (w.heap.size + 1),.int .i64 x1,.int .i64 tx,.agg #[.int .i64 x3,.bool x4,.slice q3 vr.length c3],.int .u64 x6] w1 fun e w' => (∃ v,e = .returned v) ∧ TB w w' (w.heap.size + 1) b2 bm (wrtM M x1 tx ⟨x3,x4,vr⟩ x6) (Kj + 2) JJ (mapT (bakR 0) tx (runM 64 A)) (65537 * n + 65537) n (docL (mapT (bakR 0) tx (runM 64 A))) (.slice p6 n6 c6)) := fun w1 q3 c3 h hv => (h.s1 (Q := fun e => ∃ v,e = .returned v) (fun F hF => (writeS_any _ _ 64 _ _ _ F x1 tx x3 x4 vr q3 c3 x6 _ hF HTx.out.1 HTx.out.2 HKb.out (by have h1 := HJ.out; omega) hv hrow).mono fun e w9 h9 => ⟨⟨_,h9.1⟩,h9.2⟩)).mono fun e w' h9 => ⟨h9.1,h9.2.jset1 (fun r hr => (NW.wrt HN.out x1 ⟨x3,x4,vr⟩ x6 r hr).ok (h9.2.ok1.1 r hr) HJ.out.1 (by have h1 := HJ.out; omega))⟩
   have HE1:Hid (∀ r ∈ M,OkR JJ r) := HTj.out.ok1.1
   have HSA:Hid (SamO tx (addX 64 M tx ⟨x3,x4,vr⟩) (runM 64 A) ∧ ∀ r ∈ addX 64 M tx ⟨x3,x4,vr⟩,NW n (j + 1) tx r) := ⟨HS.out.addX HE1.out ⟨x3,x4,vr⟩,NW.addX HN.out ⟨x3,x4,vr⟩⟩
   have HSW:Hid (SamO tx (wrtM M x1 tx ⟨x3,x4,vr⟩ x6) (runM 64 A) ∧ ∀ r ∈ wrtM M x1 tx ⟨x3,x4,vr⟩ x6,NW n (j + 1) tx r) := ⟨HS.out.wrt HE1.out x1 ⟨x3,x4,vr⟩ x6,NW.wrt HN.out x1 ⟨x3,x4,vr⟩ x6⟩
   clear HS HN HE1 HKb hrow
   generalize hnr:vr.length = nr at *
   clear hnr
   go_upto_region 13 with fail
   obtain ⟨aX,aB,-⟩ := one_new wr #[.int .i64 x0,.int .i64 x1,.int .i64 tx,.int .i64 x3,.bool x4,.slice q5 nr c5,.int .u64 x6,.int .i64 x7] 41
   have HA0:Hid (TB w (wr.alloc (.cells #[.int .i64 x0,.int .i64 x1,.int .i64 tx,.int .i64 x3,.bool x4,.slice q5 nr c5,.int .u64 x6,.int .i64 x7] 41)) (w.heap.size + 1) b2 bm M Kj JJ (mapT (bakR 0) tx (runM 64 A)) (65537 * n + 65537) n (docL (mapT (bakR 0) tx (runM 64 A))) (.slice p6 n6 c6) ∧ Box (wr.alloc (.cells #[.int .i64 x0,.int .i64 x1,.int .i64 tx,.int .i64 x3,.bool x4,.slice q5 nr c5,.int .u64 x6,.int .i64 x7] 41)) wr.heap.size #[.int .i64 x0,.int .i64 x1,.int .i64 tx,.int .i64 x3,.bool x4,.slice q5 nr c5,.int .u64 x6,.int .i64 x7] 41) := ⟨HTj.out.on aB,aX⟩
   have HVr0:Hid (SlV (wr.alloc (.cells #[.int .i64 x0,.int .i64 x1,.int .i64 tx,.int .i64 x3,.bool x4,.slice q5 nr c5,.int .u64 x6,.int .i64 x7] 41)) (wr.alloc (.cells #[.int .i64 x0,.int .i64 x1,.int .i64 tx,.int .i64 x3,.bool x4,.slice q5 nr c5,.int .u64 x6,.int .i64 x7] 41)).heap.size (.slice q5 nr c5) vr) := hV.imm (Imm.of_below aB)
   clear aX aB hV k0 k1 k2 k3 k4 k5 k6 k7 HTj
   generalize (wr.alloc (.cells #[.int .i64 x0,.int .i64 x1,.int .i64 tx,.int .i64 x3,.bool x4,.slice q5 nr c5,.int .u64 x6,.int .i64 x7] 41)) = wz at *
   generalize wr.heap.size = ba at *
   by_cases hx0:x0 = 0
   ·subst hx0
    obtain ⟨a0,a1,a2,a3,a4,a5,a6,a7⟩ := boxA HA0.out.2
    go_wp2_with fail
    refine (CO.out _ HVr0.out).mono ?_
    rintro e w3 ⟨⟨q3,c3x,rfl,hV3⟩,hb3⟩
    have HO:Hid (SlV w3 w3.heap.size (.slice q3 nr c3x) vr ∧ TB w w3 (w.heap.size + 1) b2 bm M Kj JJ (mapT (bakR 0) tx (runM 64 A)) (65537 * n + 65537) n (docL (mapT (bakR 0) tx (runM 64 A))) (.slice p6 n6 c6)) := ⟨hV3,HA0.out.1.on hb3⟩
    clear hV3 hb3 a0 a1 a2 a3 a4 a5 a6 a7
    go_wp2_with fail
    refine (CA.out _ _ _ HO.out.2 HO.out.1).mono ?_
    rintro e w4 ⟨⟨v4,rfl⟩,hT4⟩
    have HE:Hid (TB w w4 (w.heap.size + 1) b2 bm (addX 64 M tx ⟨x3,x4,vr⟩) (Kj + 2) JJ (mapT (bakR 0) tx (runM 64 A)) (65537 * n + 65537) n (docL (mapT (bakR 0) tx (runM 64 A))) (.slice p6 n6 c6)) := hT4
    clear hT4
    have hkb := HL.out.2
    go_wp2_with fail
    go_roundw
    case rel => exact ⟨j + 1,_,Kj + 2,by omega,by go_num,(show Kj + 2 = 65537 * n + 65537 + 2 * (j + 1) by have h1 := HK.out; omega),HE,HSA.out.1,HSA.out.2⟩
    case measure => simp [intOf]; omega
   ·have HA:Hid (TB w wz.drew (w.heap.size + 1) b2 bm M Kj JJ (mapT (bakR 0) tx (runM 64 A)) (65537 * n + 65537) n (docL (mapT (bakR 0) tx (runM 64 A))) (.slice p6 n6 c6) ∧ Box wz.drew ba #[.int .i64 x0,.int .i64 x1,.int .i64 tx,.int .i64 x3,.bool x4,.slice q5 nr c5,.int .u64 x6,.int .i64 x7] 41) := ⟨HA0.out.1.on ((Below.refl _ _).drew),HA0.out.2.on ((Below.refl _ _).drew)⟩
    have HVr:Hid (SlV wz.drew wz.drew.heap.size (.slice q5 nr c5) vr) := HVr0.out.imm (Imm.of_below ((Below.refl _ _).drew))
    obtain ⟨a0,a1,a2,a3,a4,a5,a6,a7⟩ := boxA HA0.out.2
    go_upto_region 15 with fail
    clear a0 a1 a2 a3 a4 a5 a6 a7
    refine wp_region_any (by kernel_rfl) ?_
    change wpAny _ _ _ _ _ _ _ (World.drew _)
    refine tk (v := ?_) 0 rfl ?_ ?_
    rotate_left
    focus
     intro w9
     go_simp
     try with_reducible rfl
    try simp only [aP]
    refine tk (v := ?_) 1 rfl ?_ ?_
    rotate_left
    focus
     intro w9
     go_simp
     try with_reducible rfl
    try simp only [aP]
    refine tk (v := ?_) 3 rfl ?_ ?_
    rotate_left
    focus
     intro w9
     go_simp
     try with_reducible rfl
    try simp only [aP]
    refine tk (v := ?_) 4 rfl ?_ ?_
    rotate_left
    focus
     intro w9
     go_simp
     try with_reducible rfl
    try simp only [aP]
    refine tk (v := ?_) 7 rfl ?_ ?_
    rotate_left
    focus
     intro w9
     go_simp
     try with_reducible rfl
    try simp only [aP]
    apply later4 (fun (w4:World) (_:Option Addr) (_:Nat) (_:Value) => Hid (TB w w4 (w.heap.size + 1) b2 bm (wrtM M x1 tx ⟨x3,x4,vr⟩ x6) (Kj + 2) JJ (mapT (bakR 0) tx (runM 64 A)) (65537 * n + 65537) n (docL (mapT (bakR 0) tx (runM 64 A))) (.slice p6 n6 c6)))
    intro hs2_5_6_8_9
    apply later3 (fun (w3:World) (q3:Option Addr) (c3x:Nat) => Hid (SlV w3 w3.heap.size (.slice q3 nr c3x) vr ∧ TB w w3 (w.heap.size + 1) b2 bm M Kj JJ (mapT (bakR 0) tx (runM 64 A)) (65537 * n + 65537) n (docL (mapT (bakR 0) tx (runM 64 A))) (.slice p6 n6 c6) ∧ Box w3 ba #[.int .i64 x0,.int .i64 x1,.int .i64 tx,.int .i64 x3,.bool x4,.slice q5 nr c5,.int .u64 x6,.int .i64 x7] 41))
    intro hs2_5_6_8
    apply later3 (fun (w3:World) (q3:Option Addr) (c3x:Nat) => Hid (SlV w3 w3.heap.size (.slice q3 nr c3x) vr ∧ TB w w3 (w.heap.size + 1) b2 bm M Kj JJ (mapT (bakR 0) tx (runM 64 A)) (65537 * n + 65537) n (docL (mapT (bakR 0) tx (runM 64 A))) (.slice p6 n6 c6) ∧ Box w3 ba #[.int .i64 x0,.int .i64 x1,.int .i64 tx,.int .i64 x3,.bool x4,.slice q5 nr c5,.int .u64 x6,.int .i64 x7] 41))
    intro hs5_6_8
    apply later0
    intro hs2_5_8
    apply later3 (fun (w3:World) (q3:Option Addr) (c3x:Nat) => Hid (SlV w3 w3.heap.size (.slice q3 nr c3x) vr ∧ TB w w3 (w.heap.size + 1) b2 bm M Kj JJ (mapT (bakR 0) tx (runM 64 A)) (65537 * n + 65537) n (docL (mapT (bakR 0) tx (runM 64 A))) (.slice p6 n6 c6) ∧ Box w3 ba #[.int .i64 x0,.int .i64 x1,.int .i64 tx,.int .i64 x3,.bool x4,.slice q5 nr c5,.int .u64 x6,.int .i64 x7] 41))
    intro hs2_5_6
    apply later0
    intro hs5_8
    apply later3 (fun (w3:World) (q3:Option Addr) (c3x:Nat) => Hid (SlV w3 w3.heap.size (.slice q3 nr c3x) vr ∧ TB w w3 (w.heap.size + 1) b2 bm M Kj JJ (mapT (bakR 0) tx (runM 64 A)) (65537 * n + 65537) n (docL (mapT (bakR 0) tx (runM 64 A))) (.slice p6 n6 c6) ∧ Box w3 ba #[.int .i64 x0,.int .i64 x1,.int .i64 tx,.int .i64 x3,.bool x4,.slice q5 nr c5,.int .u64 x6,.int .i64 x7] 41))
    intro hs5_6
    apply later0
    intro hs2_8
    apply later0
    intro hs2_5
    apply later0
    intro hs8
    apply later0
    intro hs5
    apply later0
    intro hs2
    ·obtain ⟨a0,a1,a2,a3,a4,a5,a6,a7⟩ := boxA HA.out.2
     refine wpAny_ready (rs := [2,5,8]) (by kernel_rfl) (by simp) ?_
     refine anyN_cons 2 rfl (by rfl) (fun K hK => ?_) (anyN_cons 5 rfl (by rfl) (fun K hK => ?_) (anyN_cons 8 rfl (by rfl) (fun K hK => ?_) AllReady.nil))
     ·go_simp
      refine hK.out _ _ ?_
      clear hK K
      try simp only [aP]
      exact hs2
     ·go_simp
      refine hK.out _ _ ?_
      clear hK K
      try simp only [aP]
      exact hs5
     ·go_simp
      refine hK.out _ _ ?_
      clear hK K
      try simp only [aP]
      exact hs8
    ·obtain ⟨a0,a1,a2,a3,a4,a5,a6,a7⟩ := boxA HA.out.2
     refine wpAny_ready (rs := [5,8]) (by kernel_rfl) (by simp) ?_
     refine anyN_cons 5 rfl (by rfl) (fun K hK => ?_) (anyN_cons 8 rfl (by rfl) (fun K hK => ?_) AllReady.nil)
     ·go_simp
      refine hK.out _ _ ?_
      clear hK K
      try simp only [aP]
      exact hs2_5
     ·go_simp
      refine hK.out _ _ ?_
      clear hK K
      try simp only [aP]
      exact hs2_8
    ·obtain ⟨a0,a1,a2,a3,a4,a5,a6,a7⟩ := boxA HA.out.2
     refine wpAny_ready (rs := [2,6,8]) (by kernel_rfl) (by simp) ?_
     refine anyN_cons 2 rfl (by rfl) (fun K hK => ?_) (anyN_cons 6 rfl (by rfl) (fun K hK => ?_) (anyN_cons 8 rfl (by rfl) (fun K hK => ?_) AllReady.nil))
     ·go_simp
      refine hK.out _ _ ?_
      clear hK K
      try simp only [aP]
      exact hs2_5
     ·go_simp
      refine (CO.out _ HVr.out).mono ?_
      rintro e w3 ⟨⟨q3,c3x,rfl,hV3⟩,hb3⟩
      dsimp only
      have HO:Hid (SlV w3 w3.heap.size (.slice q3 nr c3x) vr ∧ TB w w3 (w.heap.size + 1) b2 bm M Kj JJ (mapT (bakR 0) tx (runM 64 A)) (65537 * n + 65537) n (docL (mapT (bakR 0) tx (runM 64 A))) (.slice p6 n6 c6) ∧ Box w3 ba #[.int .i64 x0,.int .i64 x1,.int .i64 tx,.int .i64 x3,.bool x4,.slice q5 nr c5,.int .u64 x6,.int .i64 x7] 41) := ⟨hV3,HA.out.1.on hb3,HA.out.2.on hb3⟩
      clear hb3 hV3
      refine hK.out _ _ ?_
      clear hK K
      try simp only [aP]
      exact hs5_6 w3 q3 c3x HO
     ·go_simp
      refine hK.out _ _ ?_
      clear hK K
      try simp only [aP]
      exact hs5_8
    ·obtain ⟨a0,a1,a2,a3,a4,a5,a6,a7⟩ := boxA HA.out.2
     refine wpAny_ready (rs := [2,5]) (by kernel_rfl) (by simp) ?_
     refine anyN_cons 2 rfl (by rfl) (fun K hK => ?_) (anyN_cons 5 rfl (by rfl) (fun K hK => ?_) AllReady.nil)
     ·go_simp
      refine hK.out _ _ ?_
      clear hK K
      try simp only [aP]
      exact hs2_8
     ·go_simp
      refine hK.out _ _ ?_
      clear hK K
      try simp only [aP]
      exact hs5_8
    ·obtain ⟨a0,a1,a2,a3,a4,a5,a6,a7⟩ := boxA HA.out.2
     refine wpAny_ready (rs := [6,8]) (by kernel_rfl) (by simp) ?_
     refine anyN_cons 6 rfl (by rfl) (fun K hK => ?_) (anyN_cons 8 rfl (by rfl) (fun K hK => ?_) AllReady.nil)
     ·go_simp
      refine (CO.out _ HVr.out).mono ?_
      rintro e w3 ⟨⟨q3,c3x,rfl,hV3⟩,hb3⟩
      dsimp only
      have HO:Hid (SlV w3 w3.heap.size (.slice q3 nr c3x) vr ∧ TB w w3 (w.heap.size + 1) b2 bm M Kj JJ (mapT (bakR 0) tx (runM 64 A)) (65537 * n + 65537) n (docL (mapT (bakR 0) tx (runM 64 A))) (.slice p6 n6 c6) ∧ Box w3 ba #[.int .i64 x0,.int .i64 x1,.int .i64 tx,.int .i64 x3,.bool x4,.slice q5 nr c5,.int .u64 x6,.int .i64 x7] 41) := ⟨hV3,HA.out.1.on hb3,HA.out.2.on hb3⟩
      clear hb3 hV3
      refine hK.out _ _ ?_
      clear hK K
      try simp only [aP]
      exact hs2_5_6 w3 q3 c3x HO
     ·go_simp
      refine hK.out _ _ ?_
      clear hK K
      try simp only [aP]
      exact hs2_5_8
    ·obtain ⟨a0,a1,a2,a3,a4,a5,a6,a7⟩ := boxA HA.out.2
     refine wpAny_ready (rs := [5]) (by kernel_rfl) (by simp) ?_
     refine anyN_cons 5 rfl (by rfl) (fun K hK => ?_) AllReady.nil
     go_simp
     refine hK.out _ _ ?_
     clear hK K
     try simp only [aP]
     exact hs2_5_8
    ·intro w3 q3 c3x HO
     obtain ⟨a0,a1,a2,a3,a4,a5,a6,a7⟩ := boxA HO.out.2.2
     refine wpAny_ready (rs := [2,8]) (by kernel_rfl) (by simp) ?_
     refine anyN_cons 2 rfl (by rfl) (fun K hK => ?_) (anyN_cons 8 rfl (by rfl) (fun K hK => ?_) AllReady.nil)
     ·go_simp
      refine hK.out _ _ ?_
      clear hK K
      try simp only [aP]
      exact hs2_5_6 w3 q3 c3x HO
     ·go_simp
      refine hK.out _ _ ?_
      clear hK K
      try simp only [aP]
      exact hs5_6_8 w3 q3 c3x HO
    ·obtain ⟨a0,a1,a2,a3,a4,a5,a6,a7⟩ := boxA HA.out.2
     refine wpAny_ready (rs := [2,6]) (by kernel_rfl) (by simp) ?_
     refine anyN_cons 2 rfl (by rfl) (fun K hK => ?_) (anyN_cons 6 rfl (by rfl) (fun K hK => ?_) AllReady.nil)
     ·go_simp
      refine hK.out _ _ ?_
      clear hK K
      try simp only [aP]
      exact hs2_5_8
     ·go_simp
      refine (CO.out _ HVr.out).mono ?_
      rintro e w3 ⟨⟨q3,c3x,rfl,hV3⟩,hb3⟩
      dsimp only
      have HO:Hid (SlV w3 w3.heap.size (.slice q3 nr c3x) vr ∧ TB w w3 (w.heap.size + 1) b2 bm M Kj JJ (mapT (bakR 0) tx (runM 64 A)) (65537 * n + 65537) n (docL (mapT (bakR 0) tx (runM 64 A))) (.slice p6 n6 c6) ∧ Box w3 ba #[.int .i64 x0,.int .i64 x1,.int .i64 tx,.int .i64 x3,.bool x4,.slice q5 nr c5,.int .u64 x6,.int .i64 x7] 41) := ⟨hV3,HA.out.1.on hb3,HA.out.2.on hb3⟩
      clear hb3 hV3
      refine hK.out _ _ ?_
      clear hK K
      try simp only [aP]
      exact hs5_6_8 w3 q3 c3x HO
    ·intro w3 q3 c3x HO
     obtain ⟨a0,a1,a2,a3,a4,a5,a6,a7⟩ := boxA HO.out.2.2
     refine wpAny_ready (rs := [8]) (by kernel_rfl) (by simp) ?_
     refine anyN_cons 8 rfl (by rfl) (fun K hK => ?_) AllReady.nil
     go_simp
     refine hK.out _ _ ?_
     clear hK K
     try simp only [aP]
     exact hs2_5_6_8 w3 q3 c3x HO
    ·obtain ⟨a0,a1,a2,a3,a4,a5,a6,a7⟩ := boxA HA.out.2
     refine wpAny_ready (rs := [6]) (by kernel_rfl) (by simp) ?_
     refine anyN_cons 6 rfl (by rfl) (fun K hK => ?_) AllReady.nil
     go_simp
     refine (CO.out _ HVr.out).mono ?_
     rintro e w3 ⟨⟨q3,c3x,rfl,hV3⟩,hb3⟩
     dsimp only
     have HO:Hid (SlV w3 w3.heap.size (.slice q3 nr c3x) vr ∧ TB w w3 (w.heap.size + 1) b2 bm M Kj JJ (mapT (bakR 0) tx (runM 64 A)) (65537 * n + 65537) n (docL (mapT (bakR 0) tx (runM 64 A))) (.slice p6 n6 c6) ∧ Box w3 ba #[.int .i64 x0,.int .i64 x1,.int .i64 tx,.int .i64 x3,.bool x4,.slice q5 nr c5,.int .u64 x6,.int .i64 x7] 41) := ⟨hV3,HA.out.1.on hb3,HA.out.2.on hb3⟩
     clear hb3 hV3
     refine hK.out _ _ ?_
     clear hK K
     try simp only [aP]
     exact hs2_5_6_8 w3 q3 c3x HO
    ·intro w3 q3 c3x HO
     obtain ⟨a0,a1,a2,a3,a4,a5,a6,a7⟩ := boxA HO.out.2.2
     refine wpAny_ready (rs := [2]) (by kernel_rfl) (by simp) ?_
     refine anyN_cons 2 rfl (by rfl) (fun K hK => ?_) AllReady.nil
     go_simp
     refine hK.out _ _ ?_
     clear hK K
     try simp only [aP]
     exact hs2_5_6_8 w3 q3 c3x HO
    ·intro w3 q3 c3x HO
     obtain ⟨a0,a1,a2,a3,a4,a5,a6,a7⟩ := boxA HO.out.2.2
     refine wpAny_ready (rs := [9]) (by kernel_rfl) (by simp) ?_
     refine anyN_cons 9 rfl (by rfl) (fun K hK => ?_) AllReady.nil
     go_simp
     refine (CW.out _ _ _ HO.out.2.1 HO.out.1).mono ?_
     rintro e w4 ⟨⟨v4,rfl⟩,hT4⟩
     dsimp only
     have HE:Hid (TB w w4 (w.heap.size + 1) b2 bm (wrtM M x1 tx ⟨x3,x4,vr⟩ x6) (Kj + 2) JJ (mapT (bakR 0) tx (runM 64 A)) (65537 * n + 65537) n (docL (mapT (bakR 0) tx (runM 64 A))) (.slice p6 n6 c6)) := hT4
     clear hT4
     refine hK.out _ _ ?_
     clear hK K
     try simp only [aP]
     exact hs2_5_6_8_9 w4 q3 c3x v4 HE
    ·intro w4 q3 c3x v4 HE
     refine wpAny_done (by kernel_rfl) ?_ _
     have hkb := HL.out.2
     go_wp2_with fail
     go_roundw
     case rel => exact ⟨j + 1,_,Kj + 2,by omega,by go_num,(show Kj + 2 = 65537 * n + 65537 + 2 * (j + 1) by have h1 := HK.out; omega),HE,HSW.out.1,HSW.out.2⟩
     case measure => simp [intOf]; omega

end Go.Proofs.YtcibcfghkidncaaGreatDoor
