/- A store: New. A store: New. A store: Prune. A store: Settle. -/
import Derived.Test.YtcibcfghkidncaaGreatDoorGWSto10
namespace Go.Proofs.YtcibcfghkidncaaGreatDoor
open Go.RowKit Go.Lib Go.Maps
set_option maxRecDepth 100000

theorem new_stx (most:Nat) (w w4:World) (hs:SBk w4 w.heap.size most (w.heap.size + 2) 0 (.slice none 0 0) (fun _ => 0) (fun _ => none)) (hp:PBox w4 (w.heap.size + 2) (.slice (some ⟨w.heap.size + 1,0,none⟩) 0 0)) (he:Box w4 (w.heap.size + 1) #[] 163) :
  StX w4 w.heap.size w.heap.size most (w.heap.size + 2) 0 (fun _ => 0) (fun _ => none) (.slice (some ⟨w.heap.size + 1,0,none⟩) 0 0) (.slice none 0 0) [] [] (fun _ => .slice none 0 0) (fun _ => []) [] 0 := by
 refine ⟨hs,Nat.le_refl _,World.ownsRow_nil _ _ _ _,⟨hp,⟨rfl,.inr ⟨w.heap.size + 1,0,#[],rfl,Nat.le_succ _,he,Nat.le_refl _,Nat.zero_le _,rfl,rfl⟩⟩,rfl,fun i cb n r hc => by simp at hc,fun c hc => by simp at hc,List.Pairwise.nil,?_⟩,⟨fun _ _ _ _ => rfl,fun _ _ _ h => by simp at h,fun _ h => absurd rfl h,fun _ _ _ h => absurd rfl h,fun _ _ _ _ _ _ h => by simp at h,fun _ h => absurd rfl h⟩,NB.nil _⟩
 intro g cs T z hg hk
 have e:g = w.heap.size + 1 := by
  have:some (w.heap.size + 1) = some g := hg
  injection this with h
  exact h.symm
 rw [e,show w4.heap[w.heap.size + 1]? = _ from he] at hk
 cases hk
 simp [nbs]

set_option maxHeartbeats 4000000 in
theorem newS_ok (most:Nat) (w:World) (hm:1 ≤ most) (hm2:most ≤ 65536) :
  Calls Tryz.prog 8 #[.int .i64 (most:Nat)] w fun e w' => e = .returned (.tuple #[ptr1 w.heap.size,.int .i64 0]) ∧ (∃ F,Sto w' w.heap.size w.heap.size most [] 0 0 F ∧ ∀ k,F k → w.heap.size ≤ k) ∧ Below w.heap.size w w' := by
 have h1:¬ ((most:Int) < 1) := by omega
 have h2:¬ (65536 < (most:Int)) := by omega
 have HM:Hid (most ≤ 65536) := hm2
 obtain ⟨a1,a2,a3,a4⟩ := two_new w (Tryz.zeroCells103.setIfInBounds 0 (.int .i64 (most:Nat))) #[] 103 163
 obtain ⟨b1,b2,b3⟩ := one_new ((w.alloc (.cells (Tryz.zeroCells103.setIfInBounds 0 (.int .i64 (most:Nat))) 103)).alloc (.cells #[] 163)) #[(.slice (some ⟨w.heap.size + 1,0,none⟩) 0 0)] 105
 rw [a4] at b1
 have hA := a1.on b2
 have hc:(((w.alloc (.cells (Tryz.zeroCells103.setIfInBounds 0 (.int .i64 (most:Nat))) 103)).alloc (.cells #[] 163)).alloc (.cells #[(.slice (some ⟨w.heap.size + 1,0,none⟩) 0 0)] 105)).cell? ⟨w.heap.size,1,none⟩ = some (.pointer none) := by
  unfold Box at hA
  simp only [World.cell?,hA]
  simp only [Option.isSome_none,Bool.false_eq_true,if_false]
  rw [Array.getElem?_setIfInBounds_ne (by decide)]
  kernel_rfl
 have hz:(((w.alloc (.cells (Tryz.zeroCells103.setIfInBounds 0 (.int .i64 (most:Nat))) 103)).alloc (.cells #[] 163)).alloc (.cells #[(.slice (some ⟨w.heap.size + 1,0,none⟩) 0 0)] 105)).frozen? ⟨w.heap.size,1,none⟩ = false := by
  unfold Box at hA
  simp [World.frozen?,hA]
 have C1:Hid (Calls _ _ _ _ _) := sstore_any w.heap.size (w.heap.size + 2) none (.slice (some ⟨w.heap.size + 1,0,none⟩) 0 0) (((w.alloc (.cells (Tryz.zeroCells103.setIfInBounds 0 (.int .i64 (most:Nat))) 103)).alloc (.cells #[] 163)).alloc (.cells #[(.slice (some ⟨w.heap.size + 1,0,none⟩) 0 0)] 105)) hc hz b1
 have HX:Hid (Box (((w.alloc (.cells (Tryz.zeroCells103.setIfInBounds 0 (.int .i64 (most:Nat))) 103)).alloc (.cells #[] 163)).alloc (.cells #[(.slice (some ⟨w.heap.size + 1,0,none⟩) 0 0)] 105)) w.heap.size (Tryz.zeroCells103.setIfInBounds 0 (.int .i64 (most:Nat))) 103 ∧ Box (((w.alloc (.cells (Tryz.zeroCells103.setIfInBounds 0 (.int .i64 (most:Nat))) 103)).alloc (.cells #[] 163)).alloc (.cells #[(.slice (some ⟨w.heap.size + 1,0,none⟩) 0 0)] 105)) (w.heap.size + 1) #[] 163 ∧ Box (((w.alloc (.cells (Tryz.zeroCells103.setIfInBounds 0 (.int .i64 (most:Nat))) 103)).alloc (.cells #[] 163)).alloc (.cells #[(.slice (some ⟨w.heap.size + 1,0,none⟩) 0 0)] 105)) (w.heap.size + 2) #[(.slice (some ⟨w.heap.size + 1,0,none⟩) 0 0)] 105 ∧ Below w.heap.size w (((w.alloc (.cells (Tryz.zeroCells103.setIfInBounds 0 (.int .i64 (most:Nat))) 103)).alloc (.cells #[] 163)).alloc (.cells #[(.slice (some ⟨w.heap.size + 1,0,none⟩) 0 0)] 105))) := ⟨hA,a2.on b2,b1,a3.trans (b2.mono a3.size)⟩
 clear a1 a2 a3 a4 b1 b2 b3 hA hc hz
 go_enter Tryz.func8,Tryz.ntmps8
 go_wp2_with fail
 generalize (((w.alloc (.cells (Tryz.zeroCells103.setIfInBounds 0 (.int .i64 (most:Nat))) 103)).alloc (.cells #[] 163)).alloc (.cells #[(.slice (some ⟨w.heap.size + 1,0,none⟩) 0 0)] 105)) = w3 at *
 refine C1.out.mono ?_
 rintro e w4 ⟨rfl,hw⟩
 go_wp2_with fail
 go_ret2
 subst hw
 have hf4:Frm w3 (w3.setCell ⟨w.heap.size,1,none⟩ (ptr1 (w.heap.size + 2))) (one1 w.heap.size) := frm_set w3 w.heap.size 1 _ (.inl rfl)
 have hS := new_stx most w _ ⟨_,HX.out.1.set (i := 1) (ptr1 (w.heap.size + 2)),zero_sbc most (w.heap.size + 2)⟩ (HX.out.2.2.1.frm hf4 (show ¬ w.heap.size + 2 = w.heap.size by omega)) (HX.out.2.1.frm hf4 (show ¬ w.heap.size + 1 = w.heap.size by omega))
 refine ⟨rfl,⟨_,⟨_,_,_,_,_,_,_,_,_,hS,fun _ => rfl,?_,?_,fun k => Iff.rfl⟩,fun k hk => (hS.mut hk).2.1⟩,HX.out.2.2.2.trans (hf4.below HX.out.2.2.2.size (fun k hk => by rw [hk]; exact Nat.le_refl _))⟩
 ·exact ⟨fun r hr => by simp at hr,Nat.zero_le _,HM.out,fun j => by simp [bitT,thrAt],rfl,fun x hx => by simp at hx⟩
 ·exact ⟨fun _ => List.nodup_nil,fun t s => by simp⟩

end Go.Proofs.YtcibcfghkidncaaGreatDoor

namespace Go.Proofs.YtcibcfghkidncaaGreatDoor
open Go.RowKit Go.Lib Go.Maps
set_option maxRecDepth 100000

end Go.Proofs.YtcibcfghkidncaaGreatDoor

namespace Go.Proofs.YtcibcfghkidncaaGreatDoor
open Go.RowKit Go.Lib Go.Maps
set_option maxRecDepth 100000

set_option maxHeartbeats 8000000 in
theorem pruneS_any (B sb most K J:Nat) (M:List Rs) (F:Nat → Prop) (s:Int) (w:World) (h:Sto w B sb most M K J F) (hK:K + 65536 ≤ 8000000000000000000) (hJ:J ≤ 3518437208882) (hT:Tab w) (hg : 1 < B) :
  Calls Tryz.prog 41 #[ptr1 sb,.int .u64 s] w fun e w' => (∃ v',e = .returned (.tuple #[.int .i64 (((slM M).map (wntA s M)).sum:Nat),v']) ∧ OwnI w' w.heap.size v' ((slM M).filter (gonA s M))) ∧ Sto w' B sb most (M.map (prnR s)) (K + 65536) J F ∧ Frm w w' F := by
 obtain ⟨pb,dl,dm,pv,tv,C,T,sv,wo,hX,hd0,hI,hW,hF⟩ := h
 obtain ⟨bX,bB,bS⟩ := one_new w #[.int .u64 s] 39
 have hX0:StX (w.alloc (.cells #[.int .u64 s] 39)) B sb most pb 0 dl dm pv tv C T sv wo M K := hX.on bB
 have C1:Hid (Calls _ _ _ _ _) := slots_any _ hX0 (hT.keep bB (Nat.lt_of_lt_of_le hg (Nat.le_trans hX.base (Nat.le_of_lt hX.blk.lt)))) hI.tw hI.tlen hg
 have HB0:Hid (Below w.heap.size w (w.alloc (.cells #[.int .u64 s] 39))) := bB
 have HX0:Hid (Box (w.alloc (.cells #[.int .u64 s] 39)) w.heap.size #[.int .u64 s] 39) := bX
 have hs0:(w.alloc (.cells #[.int .u64 s] 39)).heap.size = w.heap.size + 1 := by simp
 have HF:Hid (∀ k,F k ↔ stF sb dm pv tv C sv wo k) := hF
 have HW:Hid (InvW M wo) := hW
 have HI:Hid (InvT J most M T) := hI
 have HST:Hid (∀ k,stF sb dm pv tv C sv wo k → k < w.heap.size) := fun k hk => (hX.mut hk).2.2
 have HD:Hid (∀ d,dl d = 0) := hd0
 have HL:Hid (slotsT T (T.length * 64) = slM M) := hI.slots
 rw [HL.out] at C1
 have hlen:(slM M).length ≤ 65536 := Nat.le_trans (slM_len M) (Nat.le_trans hI.len hI.mst)
 have HMa:Hid (modL (prnR s) (slM M) M = M.map (prnR s)) := modL_all (slM_nodup M) (fun x => mem_slM) (fun r hr e => prn_not (hI.ok r hr) s e)
 have hsbw:sb < w.heap.size := hX.blk.lt
 clear hX hX0 hI hW hF bX bB bS hd0 hT HL
 go_enter Tryz.func41,Tryz.ntmps41
 go_wp2_with fail
 generalize (w.alloc (.cells #[.int .u64 s] 39)) = w0 at *
 refine C1.out.mono ?_
 rintro e w1 ⟨⟨v1,rfl,hv1⟩,hs1,hf1⟩
 have HV1:Hid (OwnI w1 w0.heap.size v1 (slM M)) := hv1
 have HS1:Hid (StX w1 B sb most pb 0 dl dm pv tv C T sv wo M K) := hs1
 have HF1:Hid (Frm w w1 (stF sb dm pv tv C sv wo)) := (Frm.of_below HB0.out).trans hf1 (fun k hk => .inl (.inl hk))
 have HX1:Hid (Box w1 w.heap.size #[.int .u64 s] 39) := HX0.out.frm hf1 (show ¬ w.heap.size = sb by omega)
 have hsz1:w.heap.size < w1.heap.size := HX1.out.lt
 obtain ⟨p1,c1,rfl,_⟩ := owns_len hv1
 clear hv1 hs1 hf1 C1 HX0
 obtain ⟨n,hn⟩:∃ n,(slM M).length = n := ⟨_,rfl⟩
 rw [hn] at HV1 hlen
 rw [hn]
 go_wp2_with fail
 go_loopw [6,7,15] (fun u a i wq => ∃ (j sm:Nat) (C':List (Nat × Nat)) (T':List Nat),j ≤ n ∧ i = .int .i64 (j:Int) ∧ a = .int .i64 (sm:Int) ∧ sm ≤ j * 3518437208882 ∧ Hid (sm = (((slM M).take j).map (wntA s M)).sum) ∧ Hid (OwnI wq w1.heap.size u (((slM M).take j).filter (gonA s M)) ∧ NB wq u) ∧ Hid (StX wq B sb most pb 0 dl dm pv tv C' T' sv wo (modL (prnR s) ((slM M).take j) M) (K + j)) ∧ Hid (InvT J most (modL (prnR s) ((slM M).take j) M) T') ∧ Hid (C'.map Prod.fst = C.map Prod.fst) ∧ Hid (Frm w wq (stF sb dm pv tv C sv wo)) ∧ Hid (Frm w1 wq (stF sb dm pv tv C sv wo))) (fun _ _ i _ => n - (intOf i).toNat)
 case atStart => exact ⟨0,0,C,T,Nat.zero_le _,by go_num,by go_num,Nat.zero_le _,rfl,⟨OwnI.nil _ _,NB.nil _⟩,HS1,HI,rfl,HF1,Frm.refl _ _⟩
 case round =>
  obtain ⟨j,sm,C',T',hj,rfl,rfl,hsm,hSm,hO,hS,hI,hC,hf,hf1⟩ := hrel
  have hV:Hid (OwnI wr w0.heap.size (.slice p1 n c1) (slM M)) := owns_frm HV1.out hf1.out (fun g hg e => by
   have h1 := (World.ownsRow.lt HV1.out g hg).1
   have h2 := HST.out g e
   omega)
  by_cases hj0:j = n
  ·subst hj0
   have HE:Hid (modL (prnR s) ((slM M).take j) M = M.map (prnR s)) := by
    show _ = _
    rw [← hn,List.take_length]
    exact HMa.out
   have HE2:Hid ((slM M).take j = slM M) := by
    show _ = _
    rw [← hn,List.take_length]
   obtain ⟨pu,cu,rfl,_⟩ := owns_len hO.out.1
   go_wp2
   go_ret2
   have hO' := hO.out.1
   have hS' := hS.out
   have hI' := hI.out
   have hSm':sm = _ := hSm.out
   rw [HE2.out] at hO' hSm'
   rw [HE.out] at hS' hI'
   rw [HE2.out]
   refine ⟨⟨_,by rw [← hSm']; rfl,owns_base hO' (Nat.le_of_lt hsz1)⟩,⟨pb,dl,dm,pv,tv,C',T',sv,wo,hS'.mono (by omega),HD.out,hI',HW.out.all (f := prnR s) (fun _ => rfl),fun k => ⟨fun hk => stF_fst hC.out.symm ((HF.out k).1 hk),fun hk => (HF.out k).2 (stF_fst hC.out hk)⟩⟩,hf.out.mono (fun k hk => .inl ((HF.out k).2 hk))⟩
  ·have hj1:j < (slM M).length := by omega
   have hjn:j < n := by omega
   obtain ⟨g,cap,e2,hg0,hgl⟩ := owns_form hV.out (by omega)
   injection e2 with e3 e4 e5
   subst e3 e5
   clear e4
   have a0:wr.cell? ⟨g,j,none⟩ = some (.int .i64 ((slM M)[j]:Nat)) := by
    have hV' := hV.out
    unfold OwnI at hV'
    rw [hn] at hV'
    rw [World.ownsRow.cellAt hV' j (by omega)]
    simp [icells,hj1]
   obtain ⟨r,hr,hth⟩ := mem_slM.1 (List.getElem_mem hj1)
   have hMj:(modL (prnR s) ((slM M).take j) M)[(slM M)[j]]? = some r := (modL_not _ _ _ _ (take_not (slM_nodup M) hj1)).trans hr
   obtain ⟨hxl,hxe⟩ := List.getElem?_eq_some_iff.1 hMj
   have hok := HI.out.ok r (List.mem_of_getElem? hr)
   have hwn:wnt s r ≤ 3518437208882 := Nat.le_trans (Nat.sub_le _ _) (Nat.le_trans hok.nL hJ)
   have hgd:M.getD (slM M)[j] nilR = r := by rw [List.getD_eq_getElem?_getD,hr]; rfl
   have HSum:Hid (sm + wnt s r = (((slM M).take (j + 1)).map (wntA s M)).sum) := by
    show _ = _
    rw [sum_one _ hj1,← hSm.out]
    unfold wntA
    rw [hgd]
   have HGo:Hid (((slM M).take (j + 1)).filter (gonA s M) = ((slM M).take j).filter (gonA s M) ++ (if thr (prnR s r) = true then [] else [(slM M)[j]])) := by
    show _ = _
    rw [filter_one _ hj1]
    unfold gonA
    rw [hgd]
    cases thr (prnR s r) <;> rfl
   have HZ:Hid (wnt s r = 0 → thr (prnR s r) = true) := fun e => by
    rw [prn_same hok (by
     have h1 := prnL_len r.L s
     have h2:r.L.length - (prnL r.L s).length = 0 := e
     omega)]
    exact hth
   have hA:(((slM M).take j).filter (gonA s M)).length ≤ 65536 := by
    have h1 := List.length_filter_le (gonA s M) ((slM M).take j)
    rw [List.length_take] at h1
    omega
   have hx:Box wr w.heap.size #[.int .u64 s] 39 := HX1.out.frm hf1.out (fun e => by have := HST.out _ e; omega)
   have hxx := hx.lt
   obtain ⟨gX,gB,gS⟩ := one_new wr #[.int .i64 0] 3
   have hsz:w1.heap.size ≤ wr.heap.size := hf1.out.size
   have HT:Hid (Calls _ _ _ _ _) := turnG2 (J := J) 78 (ptr1 w.heap.size) (ptr1 wr.heap.size) (slM M)[j] (prnR s r) (decide (0 < wnt s r)) (one1 wr.heap.size) (fun w' => Box w' wr.heap.size #[.int .i64 (wnt s r:Nat)] 3) (wr.alloc (.cells #[.int .i64 0] 3)) (hS.out.on gB) hI.out hxl (by rw [hxe]; exact hth) (by omega) (fun hb => by
     rw [hxe]
     refine prn_same hok ?_
     have h1 := prnL_len r.L s
     have h2:¬ 0 < wnt s r := of_decide_eq_false hb
     unfold wnt at h2
     omega) (hok.prn s) prune_enters (fun k hk => by
     have hk':k = wr.heap.size := hk
     subst hk'
     exact ⟨gX.mut (pln1 _ (by simp)) (by decide),fun e => by have := HST.out _ (stF_fst hC.out e); omega,gX.lt⟩) (fun wa wb h1 h2 => (h2 _ rfl).trans h1) (fun w2 p2 q2 c2 hb2 hs2' => by
     rw [hxe] at hs2' ⊢
     exact cprune_any p2 q2 c2 J r s w.heap.size wr.heap.size 0 w2 hs2' hok hJ ((hb2.cell (p := ⟨w.heap.size,0,none⟩) (Nat.lt_of_lt_of_le hxx gB.size)).trans ((gB.cell (p := ⟨w.heap.size,0,none⟩) hxx).trans hx.cell0.1)) (Nat.lt_of_lt_of_le hxx (Nat.le_trans gB.size hb2.size)) (gX.on hb2))
   have HNx:Hid ((modL (prnR s) ((slM M).take j) M).set (slM M)[j] (prnR s r) = modL (prnR s) ((slM M).take (j + 1)) M) := by
    show _ = _
    rw [take_one hj1,modL_app,modify_set hxl,hxe]
   have HB1:Hid (Below wr.heap.size wr (wr.alloc (.cells #[.int .i64 0] 3))) := gB
   clear hr hth hMj hxl hxe hok hgd hx gX gB gS
   generalize (slM M)[j] = x at *
   generalize prnR s r = r3 at *
   generalize wnt s r = wn at *
   obtain ⟨pu,cu,rfl,_⟩ := owns_len hO.out.1
   generalize hAl:((slM M).take j).filter (gonA s M) = A at *
   go_wp2_with fail
   generalize wr.alloc (.cells #[.int .i64 0] 3) = wA at *
   refine HT.out.mono ?_
   rintro e w2 ⟨⟨v2,rfl,p2,q2,c2,rfl,hs2⟩,⟨C2,T2,hS2,hI2,hC2⟩,hq2,hf2⟩
   obtain ⟨tx3,htx3⟩:∃ x,r3.tx = x := ⟨_,rfl⟩
   obtain ⟨n3,hn3⟩:∃ x,r3.W.length = x := ⟨_,rfl⟩
   have C5:Hid (∀ w3,Below w2.heap.size w2 w3 → Calls Tryz.prog 52 #[stV p2 q2 c2 r3] w3 fun e w' => e = .returned (.bool (thr r3)) ∧ Below w3.heap.size w3 w') := fun w3 h3 => there_any p2 q2 c2 r3 w3 (hs2.imm (Imm.of_below h3)).pst
   simp only [stV,htx3,hn3] at C5 ⊢
   have hfr:Frm wr w2 (stF sb dm pv tv C sv wo) := (Frm.of_below HB1.out).trans hf2 (fun k hk => hk.elim (fun e => .inr (by rw [show k = wr.heap.size from e]; exact Nat.le_refl _)) (fun e => .inl (stF_fst hC.out e)))
   have hO2:OwnI w2 w1.heap.size (.slice pu A.length cu) A := owns_frm hO.out.1 hfr (fun g hg e => by
    have h1 := (World.ownsRow.lt hO.out.1 g hg).1
    have h2 := HST.out g e
    omega)
   have hN2:NB w2 (.slice pu A.length cu) := hO.out.2.frm hfr (fun g hg => ⟨(World.ownsRow.lt hO.out.1 g hg).2,fun e => by
    have h1 := (World.ownsRow.lt hO.out.1 g hg).1
    have h2 := HST.out g e
    omega⟩)
   have HQ2:Hid (OwnI w2 w1.heap.size (.slice pu A.length cu) A ∧ NB w2 (.slice pu A.length cu) ∧ StX w2 B sb most pb 0 dl dm pv tv C2 T2 sv wo (modL (prnR s) ((slM M).take (j + 1)) M) (K + (j + 1)) ∧ InvT J most (modL (prnR s) ((slM M).take (j + 1)) M) T2 ∧ C2.map Prod.fst = C.map Prod.fst ∧ Frm w w2 (stF sb dm pv tv C sv wo) ∧ Frm w1 w2 (stF sb dm pv tv C sv wo)) := by
    refine ⟨hO2,hN2,?_,?_,hC2.trans hC.out,hf.out.trans hfr (fun k hk => .inl hk),hf1.out.trans hfr (fun k hk => .inl hk)⟩
    ·rw [← HNx.out]; exact hS2
    ·rw [← HNx.out]; exact hI2
   obtain ⟨yX,yB,yS⟩ := one_new w2 #[.pointer p2,.int .i64 tx3,.slice q2 n3 c2] 125
   have g3 := (hq2.on yB).cell0.1
   have HB3:Hid (Below w2.heap.size w2 (w2.alloc (.cells #[.pointer p2,.int .i64 tx3,.slice q2 n3 c2] 125))) := yB
   obtain ⟨⟨y0,y1,y2⟩,_⟩ := box3 yX
   have hsz2:w1.heap.size ≤ w2.heap.size := HQ2.out.2.2.2.2.2.2.size
   clear hs2 hS2 hI2 hC2 hq2 hf2 hfr hO2 hN2 hO hS hI hC hf hf1 HT HNx HB1 yX yB yS a0 hV
   have e9:((sm + wn:Nat):Int) = (sm:Int) + (wn:Int) := by omega
   have HU:Hid (((sm + wn:Nat):Int) = (sm:Int) + (wn:Int)) := e9
   clear e9
   by_cases hw0:0 < wn
   ·cases ht3:thr r3 with
    | true =>
     rw [ht3] at C5
     go_wp2_with fail
     refine (C5.out _ HB3.out).mono ?_
     rintro e w4 ⟨rfl,hb4⟩
     have HB4:Hid (Below w2.heap.size w2 w4) := HB3.out.trans (hb4.mono HB3.out.size)
     clear hb4 C5
     go_wp2_with fail
     go_roundw
     case rel =>
      obtain ⟨q1,q2,q3,q4,q5,q6,q7⟩ := HQ2.out
      have HGo' := HGo.out
      rw [if_pos ht3,List.append_nil] at HGo'
      refine ⟨j + 1,sm + wn,C2,T2,by omega,by go_num,by rw [HU.out],by omega,HSum,⟨?_,?_⟩,q3.on HB4.out,q4,q5,q6.trans (Frm.of_below (F := stF sb dm pv tv C sv wo) HB4.out) (fun k hk => .inl hk),q7.trans (Frm.of_below (F := stF sb dm pv tv C sv wo) HB4.out) (fun k hk => .inl hk)⟩
      ·rw [HGo']; exact owns_kept q1 HB4.out
      ·exact q2.frm (G := none1) (Frm.of_below HB4.out) (fun g hg => ⟨(World.ownsRow.lt q1 g hg).2,fun h => h⟩)
     case measure => simp [intOf]; omega
    | false =>
     rw [ht3] at C5
     go_wp2_with fail
     refine (C5.out _ HB3.out).mono ?_
     rintro e w4 ⟨rfl,hb4⟩
     have hb24:Below w2.heap.size w2 w4 := HB3.out.trans (hb4.mono HB3.out.size)
     obtain ⟨q1,q2,q3,q4,q5,q6,q7⟩ := HQ2.out
     have hO4:OwnI w4 w1.heap.size (.slice pu A.length cu) A := owns_kept q1 hb24
     have hN4:NB w4 (.slice pu A.length cu) := q2.frm (G := none1) (Frm.of_below hb24) (fun g hg => ⟨(World.ownsRow.lt q1 g hg).2,fun h => h⟩)
     have HO4:Hid (OwnI w4 w1.heap.size (.slice pu A.length cu) A ∧ NB w4 (.slice pu A.length cu)) := ⟨hO4,hN4⟩
     have HQ4:Hid (StX w4 B sb most pb 0 dl dm pv tv C2 T2 sv wo (modL (prnR s) ((slM M).take (j + 1)) M) (K + (j + 1)) ∧ InvT J most (modL (prnR s) ((slM M).take (j + 1)) M) T2 ∧ C2.map Prod.fst = C.map Prod.fst ∧ Frm w w4 (stF sb dm pv tv C sv wo) ∧ Frm w1 w4 (stF sb dm pv tv C sv wo)) := ⟨q3.on hb24,q4,q5,q6.trans (Frm.of_below (F := stF sb dm pv tv C sv wo) hb24) (fun k hk => .inl hk),q7.trans (Frm.of_below (F := stF sb dm pv tv C sv wo) hb24) (fun k hk => .inl hk)⟩
     have hle:w1.heap.size ≤ w4.heap.size := Nat.le_trans hsz2 hb24.size
     clear hb4 hb24 C5 q1 q2 q3 q4 q5 q6 q7 hO4 hN4 HQ2 HB3 g3 y0 y1 y2
     go_wp2_with (first | (at_builtin; go_loud (refine wpList_app1n w4 rfl (.tmp 33) (.tmp 35) 3 56 _ 8 rfl Tryz.underlying56 info_int rfl (nb_int _ _) w1.heap.size _ _ _ (by rfl) HO4.out.1 HO4.out.2 (.int .i64 (x:Nat)) rfl (nb_int _ _) w4.heap.size (by rfl) rfl (by omega) (by omega) hle ?_); intro v6 w6 h6 h7 h8 h9 h10))
     obtain ⟨q1,q4,q5,q6,q7⟩ := HQ4.out
     obtain ⟨b1,b2,b3,b4⟩ := q1.beside (x := x) HO4.out.1 HO4.out.2 hle (fun k hk => Nat.lt_of_lt_of_le (HST.out k (stF_fst q5 hk)) (Nat.le_of_lt hsz1)) h6 h7
     have hf6:Frm w4 w6 (fun k => w1.heap.size ≤ k) := ⟨b3.os,b3.tape,b3.output,b3.size,fun k hk hn => b3.block k (by have := Nat.lt_of_not_le hn; exact this)⟩
     have HQ6:Hid (OwnI w6 w1.heap.size v6 (A ++ [x]) ∧ NB w6 v6 ∧ StX w6 B sb most pb 0 dl dm pv tv C2 T2 sv wo (modL (prnR s) ((slM M).take (j + 1)) M) (K + (j + 1)) ∧ InvT J most (modL (prnR s) ((slM M).take (j + 1)) M) T2 ∧ C2.map Prod.fst = C.map Prod.fst ∧ Frm w w6 (stF sb dm pv tv C sv wo) ∧ Frm w1 w6 (stF sb dm pv tv C sv wo)) := ⟨b1,h10,b2,q4,q5,q6.trans hf6 (fun k hk => .inr (Nat.le_trans (Nat.le_of_lt hsz1) hk)),q7.trans hf6 (fun k hk => .inr hk)⟩
     clear h6 h7 h8 h9 h10 q1 q4 q5 q6 q7 b1 b2 b3 b4 hf6
     go_wp2_with fail
     go_roundw
     case rel =>
      obtain ⟨q1,q2,q3,q4,q5,q6,q7⟩ := HQ6.out
      have HGo' := HGo.out
      rw [if_neg (by rw [ht3]; decide)] at HGo'
      refine ⟨j + 1,sm + wn,C2,T2,by omega,by go_num,by rw [HU.out],by omega,HSum,⟨?_,q2⟩,q3,q4,q5,q6,q7⟩
      rw [HGo']; exact q1
     case measure => simp [intOf]; omega
   ·have hwz:wn = 0 := by omega
    have ht3 := HZ.out hwz
    go_wp2_with fail
    go_roundw
    case rel =>
     obtain ⟨q1,q2,q3,q4,q5,q6,q7⟩ := HQ2.out
     have HGo' := HGo.out
     rw [if_pos ht3,List.append_nil] at HGo'
     refine ⟨j + 1,sm + wn,C2,T2,by omega,by go_num,by rw [HU.out,show (wn:Int) = 0 by omega,Int.add_zero],by omega,HSum,⟨?_,?_⟩,q3.on HB3.out,q4,q5,q6.trans (Frm.of_below (F := stF sb dm pv tv C sv wo) HB3.out) (fun k hk => .inl hk),q7.trans (Frm.of_below (F := stF sb dm pv tv C sv wo) HB3.out) (fun k hk => .inl hk)⟩
     ·rw [HGo']; exact owns_kept q1 HB3.out
     ·exact q2.frm (G := none1) (Frm.of_below HB3.out) (fun g hg => ⟨(World.ownsRow.lt q1 g hg).2,fun h => h⟩)
    case measure => simp [intOf]; omega

end Go.Proofs.YtcibcfghkidncaaGreatDoor

namespace Go.Proofs.YtcibcfghkidncaaGreatDoor
open Go.RowKit Go.Lib Go.Maps
set_option maxRecDepth 100000

set_option maxHeartbeats 8000000 in
theorem settle_ok (B sb most K J:Nat) (M:List Rs) (F:Nat → Prop) (t s:Int) (w:World) (h:Sto w B sb most M K J F) (hs:1 ≤ s) (hs2:s ≤ 4611686018427387904) (h1:-9223372036854775808 ≤ t) (h2:t < 9223372036854775808) (hK:K + 65537 ≤ 8000000000000000000) (hJ:J + 1 ≤ 3518437208882) (hnew:∀ r ∈ M,r.tx = t → t ≠ 0 → newr r (s - 1) = false) :
  Calls Tryz.prog 39 #[ptr1 sb,.int .i64 t,.int .u64 s] w fun e w' => (∃ L:List Nat,e = .returned (.tuple #[.int .i64 L.length,.int .i64 0]) ∧ L.Nodup ∧ ∀ x,x ∈ L ↔ t ≠ 0 ∧ ∃ r,M[x]? = some r ∧ r.tx = t) ∧ (∃ F',Sto w' B sb most (mapT (setR s) t M) (K + 65537) (J + 1) F' ∧ ∀ k,F' k → F k) ∧ Frm w w' F := by
 obtain ⟨pb,dl,dm,pv,tv,C,T,sv,wo,hX,hd0,hI,hW,hF⟩ := h
 obtain ⟨bX,bB,bS⟩ := one_new w #[.int .u64 s] 39
 have HB0:Hid (Below w.heap.size w (w.alloc (.cells #[.int .u64 s] 39))) := bB
 have HX0:Hid (Box (w.alloc (.cells #[.int .u64 s] 39)) w.heap.size #[.int .u64 s] 39) := bX
 have HS0:Hid (StX (w.alloc (.cells #[.int .u64 s] 39)) B sb most pb 0 dl dm pv tv C T sv wo M K) := hX.on bB
 have HF:Hid (∀ k,F k ↔ stF sb dm pv tv C sv wo k) := hF
 have HW:Hid (InvW M wo) := hW
 have HI:Hid (InvT J most M T) := hI
 have HST:Hid (∀ k,stF sb dm pv tv C sv wo k → k < w.heap.size) := fun k hk => (hX.mut hk).2.2
 have C1:Hid (Calls _ _ _ _ _) := desk_any sb t (w.alloc (.cells #[.int .u64 s] 39)) h1 h2
 have C2:Hid (Calls _ _ _ _ _) := lockD (dk t) (dk_lt t) _ HS0.out (hd0 _)
 obtain ⟨x0,_⟩ := (show Box _ _ #[.int .u64 s] 39 from bX).cell0
 have HM:Hid (mapT (setR s) t M = modL (setR s) (wo t) M) := (modL_map (hW.nod t) (hW.mem t)).symm
 have HD:Hid (updN (updN dl (dk t) 1) (dk t) 0 = dl ∧ ∀ d,dl d = 0) := ⟨updN_zero hd0 _,hd0⟩
 have hlen:(wo t).length ≤ 65536 := Nat.le_trans (hW.len t) (Nat.le_trans hI.len hI.mst)
 have hCl:C.length ≤ 65536 := by rw [hX.plc.len]; exact Nat.le_trans hI.len hI.mst
 have HN:Hid (∀ r ∈ M,r.tx = t → t ≠ 0 → newr r (s - 1) = false) := hnew
 clear hX hI hW hF bX bB bS hd0 hnew
 have hwr:IntKind.u64.wrap (s - 1) = s - 1 := by rw [IntKind.wrap_u64]; omega
 have hsx:¬ s < 1 := by omega
 have hsy:¬ 4611686018427387904 < s := by omega
 go_enter_defers Tryz.func39,Tryz.ntmps39
 go_wp2_with fail
 generalize (w.alloc (.cells #[.int .u64 s] 39)) = w0 at *
 refine C1.out.mono ?_
 rintro e w9 ⟨rfl,hw⟩
 rw [hw]
 clear hw w9 C1
 go_wp2_with fail
 refine C2.out.mono ?_
 rintro e w1 ⟨rfl,hs1,hf1⟩
 obtain ⟨_,c1,_,_⟩ := hs1.deskc (dk_lt t)
 have l1 := hs1.look t h1 h2
 obtain ⟨p,c,hsl,_⟩ := hs1.slice t
 rw [hsl] at l1
 have HS1:Hid (StX w1 B sb most pb 0 (updN dl (dk t) 1) dm pv tv C T sv wo M K) := hs1
 have HSL:Hid (slO (fD sv wo (dk t) t) = .slice p (wo t).length c) := hsl
 have HF1:Hid (Frm w w1 (stF sb dm pv tv C sv wo)) := (Frm.of_below HB0.out).trans hf1 (fun k hk => .inl (.inl hk))
 have hsbw:sb < w.heap.size := HST.out sb (.inl rfl)
 have HX1:Hid (Box w1 w.heap.size #[.int .u64 s] 39) := HX0.out.frm hf1 (show ¬ w.heap.size = sb by omega)
 clear hs1 hf1 hsl C2 HS0 HX0 x0
 obtain ⟨n,hn⟩:∃ n,(wo t).length = n := ⟨_,rfl⟩
 rw [hn] at l1 HSL hlen
 go_wp2_with fail
 go_loopw [38] (fun i wq => ∃ j:Nat,j ≤ n ∧ i = .int .i64 (j:Int) ∧ Hid (Below w1.heap.size w1 wq) ∧ Hid (∀ j2,j2 < j → ∀ x r,(wo t)[j2]? = some x → M[x]? = some r → newr r (s - 1) = false)) (fun i _ => n - (intOf i).toNat)
 case atStart => exact ⟨0,Nat.zero_le _,by go_num,Below.refl _ _,fun j2 h => absurd h (Nat.not_lt_zero _)⟩
 case round =>
  obtain ⟨j,hj,rfl,hb,hno⟩ := hrel
  have hS:Hid (StX wr B sb most pb 0 (updN dl (dk t) 1) dm pv tv C T sv wo M K) := HS1.out.on hb.out
  have hx:Hid (Box wr w.heap.size #[.int .u64 s] 39) := HX1.out.on hb.out
  by_cases hj0:j = n
  ·subst hj0
   have HS2:Hid (StX wr B sb most pb 0 (updN dl (dk t) 1) dm pv tv C T sv wo M K) := hS
   have HX2:Hid (Box wr w.heap.size #[.int .u64 s] 39) := hx
   have HF2:Hid (Frm w wr (stF sb dm pv tv C sv wo)) := HF1.out.trans (Frm.of_below (F := stF sb dm pv tv C sv wo) hb.out) (fun k hk => .inl hk)
   clear hS hx hb hno HS1 HX1 HF1
   go_wp2_with fail
   go_loopw [51] (fun i wq => ∃ (i2:Nat) (C':List (Nat × Nat)) (T':List Nat),i2 ≤ j ∧ i = .int .i64 (i2:Int) ∧ Hid (StX wq B sb most pb 0 (updN dl (dk t) 1) dm pv tv C' T' sv wo (modL (setR s) ((wo t).take i2) M) (K + i2)) ∧ Hid (InvT (J + 1) most (modL (setR s) ((wo t).take i2) M) T') ∧ Hid (C'.map Prod.fst = C.map Prod.fst) ∧ Hid (Frm w wq (stF sb dm pv tv C sv wo)) ∧ Hid (Box wq w.heap.size #[.int .u64 s] 39)) (fun i _ => j - (intOf i).toNat)
   case atStart => exact ⟨0,C,T,Nat.zero_le _,by go_num,HS2,HI.out.mono (Nat.le_succ J),rfl,HF2,HX2⟩
   case round =>
    obtain ⟨i2,C',T',hi2,rfl,hS,hI,hC,hf,hx⟩ := hrel
    clear HS2 HX2 HF2
    by_cases hi0:i2 = j
    ·subst hi0
     have HE:Hid (modL (setR s) ((wo t).take i2) M = mapT (setR s) t M) := by
      show _ = _
      rw [← hn,List.take_length]
      exact HM.out.symm
     have CK:Hid (Calls _ _ _ _ _) := keep_none t none 0 wr hS.out h1 h2
     go_wp2_with fail
     refine CK.out.mono ?_
     rintro e w5 ⟨rfl,hs5,hf5⟩
     go_wp2_with fail
     refine leaves_cons (f := 48) (args := #[.pointer (some ⟨sb,5 + dk t * 3,none⟩)]) (by simp) (by simp [go_sem]) ?_
     refine (unlockD (dk t) (dk_lt t) .returning w5 hs5 (if_pos rfl)).mono ?_
     rintro e u' w6 ⟨rfl,rfl,hs6,hf6⟩
     refine ⟨_,results_tmp2 (t := 6) (u := 7) rfl _ _ _,?_⟩
     rw [HD.out.1,HE.out] at hs6
     have hi6 := hI.out
     rw [HE.out] at hi6
     refine ⟨⟨wo t,by rw [hn]; rfl,HW.out.nod t,HW.out.mem t⟩,⟨stF sb dm pv tv C' sv (updI wo t []),⟨pb,dl,dm,pv,tv,C',T',sv,updI wo t [],hs6.mono (by omega),HD.out.2,hi6,?_,fun k => Iff.rfl⟩,fun k hk => (HF.out k).2 (stF_fst hC.out (stF_drop hk))⟩,?_⟩
     ·exact HW.out.drop (f := setR s) (fun r hr e1 e2 => setR_tx (HI.out.ok r hr) (by rw [e1]; exact e2) s)
     ·exact ((hf.out.trans hf5 (fun k hk => .inl (.inr (.inr (.inr (.inr (.inl ⟨_,dk_lt t,hk⟩))))))).trans hf6 (fun k hk => .inl (.inl hk))).mono (fun k hk => .inl ((HF.out k).2 hk))
    ·have hj1:i2 < (wo t).length := by omega
     obtain ⟨g,hpg,a0⟩ := hS.out.wrote t HSL.out hj1
     obtain ⟨h0,r,hr,htx⟩ := (HW.out.mem t (wo t)[i2]).1 (List.getElem_mem hj1)
     have hMj:(modL (setR s) ((wo t).take i2) M)[(wo t)[i2]]? = some r := (modL_not _ _ _ _ (take_not (HW.out.nod t) hj1)).trans hr
     obtain ⟨hxl,hxe⟩ := List.getElem?_eq_some_iff.1 hMj
     have hok := HI.out.ok r (List.mem_of_getElem? hr)
     have hnr := HN.out r (List.mem_of_getElem? hr) htx h0
     have hWl:0 < r.W.length := by
      have:r.W ≠ [] := fun e => h0 (by rw [← htx]; exact hok.tx0.2 e)
      exact List.length_pos_iff.2 this
     obtain ⟨v,hv,_⟩ := lastW_some hWl
     have hxx := hx.out.lt
     have HT:Hid (Calls _ _ _ _ _) := turnG1 (J := J + 1) 75 (ptr1 w.heap.size) (wo t)[i2] (setR s r) true none1 (fun _ => True) wr hS.out hI.out hxl (by rw [hxe]; exact tx_thr (by rw [htx]; exact h0)) (by omega) (fun hb => by cases hb) (hok.set hs hs2 hnr) settle_enters (fun _ h => h.elim) (fun _ _ _ _ => trivial) (fun w2 p2 q2 c2 hb2 hs2' => by
      rw [hxe] at hs2' ⊢
      refine (csettle_any p2 q2 c2 J r v s w.heap.size w2 hs2' hv hok (by omega) ((hb2.cell (p := ⟨w.heap.size,0,none⟩) hxx).trans hx.out.cell0.1) (Nat.lt_of_lt_of_le hxx hb2.size)).mono ?_
      rintro e w3 ⟨h5,h6⟩
      exact ⟨h5,Frm.of_below h6,trivial⟩)
     have HNx:Hid ((modL (setR s) ((wo t).take i2) M).set (wo t)[i2] (setR s r) = modL (setR s) ((wo t).take (i2 + 1)) M) := by
      show _ = _
      rw [take_one hj1,modL_app,modify_set hxl,hxe]
     clear hr hMj hxl hxe hok hWl hv hnr
     generalize (wo t)[i2] = x at *
     subst hpg
     go_wp2_with fail
     refine HT.out.mono ?_
     rintro e w2 ⟨⟨v2,rfl,-⟩,⟨C2,T2,hS2,hI2,hC2⟩,-,hf2⟩
     have HS2:Hid (StX w2 B sb most pb 0 (updN dl (dk t) 1) dm pv tv C2 T2 sv wo (modL (setR s) ((wo t).take (i2 + 1)) M) (K + (i2 + 1))) := by
      show StX _ _ _ _ _ _ _ _ _ _ _ _ _ _ _ _
      rw [← HNx.out]
      exact hS2
     have HI2:Hid (InvT (J + 1) most (modL (setR s) ((wo t).take (i2 + 1)) M) T2) := by
      show InvT _ _ _ _
      rw [← HNx.out]
      exact hI2
     have hf2':Frm wr w2 (stF sb dm pv tv C sv wo) := hf2.mono (fun k hk => .inl (hk.elim (fun h => h.elim) (fun h => stF_fst hC.out h)))
     have HF2:Hid (Frm w w2 (stF sb dm pv tv C sv wo)) := hf.out.trans hf2' (fun k hk => .inl hk)
     have HX2:Hid (Box w2 w.heap.size #[.int .u64 s] 39) := hx.out.frm hf2' (fun e => by have := HST.out _ e; omega)
     have HC2:Hid (C2.map Prod.fst = C.map Prod.fst) := hC2.trans hC.out
     clear hS2 hI2 hC2 hf2 hf2' HT HNx
     go_wp2_with fail
     go_roundw
     case rel => exact ⟨i2 + 1,C2,T2,by omega,by go_num,HS2,HI2,HC2,HF2,HX2⟩
     case measure => simp [intOf]; omega
  ·have hj1:j < (wo t).length := by omega
   obtain ⟨g,hpg,a0⟩ := hS.out.wrote t HSL.out hj1
   obtain ⟨h0,r,hr,htx⟩ := (HW.out.mem t (wo t)[j]).1 (List.getElem_mem hj1)
   have hG:Hid (getR M ((wo t)[j]:Nat) = r) := getR_at hr
   have C3:Hid (Calls _ _ _ _ _) := state_any ((wo t)[j]:Nat) wr.drew (hS.out.on (Below.refl _ _).drew) hCl
   rw [hG.out] at C3
   have x0 := hx.out.cell0.1
   have x0d:wr.drew.cell? ⟨w.heap.size,0,none⟩ = some (.int .u64 s) := x0
   have hxx := hx.out.lt
   have hxd:w.heap.size < wr.drew.heap.size := hxx
   have hg9:(wo t)[j]? = some (wo t)[j] := List.getElem?_eq_getElem hj1
   have HR:Hid ((wo t)[j]? = some (wo t)[j] ∧ M[(wo t)[j]]? = some r ∧ r.tx = t ∧ t ≠ 0) := ⟨hg9,hr,htx,h0⟩
   clear hr htx h0 hg9 hG
   generalize (wo t)[j] = x at *
   subst hpg
   cases hnw:newr r (s - 1) with
   | true =>
    exfalso
    have := HN.out r (List.mem_of_getElem? HR.out.2.1) HR.out.2.2.1 HR.out.2.2.2
    rw [this] at hnw
    cases hnw
   | false =>
    go_wp2_with fail
    refine wp_region_noPanic ?_
    refine wp_region_any (by kernel_rfl) ?_
    change wpAny _ _ _ _ _ _ _ (World.drew _)
    refine tk (v := ?_) 0 rfl ?_ ?_
    rotate_left
    focus
     intro w9
     go_simp
     try with_reducible rfl
    try simp only [aP]
    refine tk (v := ?_) 1 rfl ?_ ?_
    rotate_left
    focus
     intro w9
     go_simp
     try with_reducible rfl
    try simp only [aP]
    refine wpAny_ready (rs := [2,3]) (by kernel_rfl) (by simp) ?_
    refine anyN_cons 2 rfl (by rfl) (fun K hK => ?_) (anyN_cons 3 rfl (by rfl) (fun K hK => ?_) AllReady.nil)
    ·go_simp
     refine C3.out.mono ?_
     rintro e w5 ⟨⟨v5,rfl,p5,q5,c5,rfl,hs5⟩,hb5⟩
     dsimp only
     have x5 := (hb5.cell (p := ⟨w.heap.size,0,none⟩) hxd).trans x0d
     have HB5:Hid (Below _ _ _) := hb5
     have HP5:Hid (Pst _ _ _) := hs5.pst
     clear hb5 hs5
     refine hK.out _ _ ?_
     clear hK K
     try simp only [aP]
     refine wpAny_ready (rs := [3]) (by kernel_rfl) (by simp) ?_
     refine anyN_cons 3 rfl (by rfl) (fun K hK => ?_) AllReady.nil
     go_simp
     refine hK.out _ _ ?_
     clear hK K
     try simp only [aP]
     refine wpAny_ready (rs := [4]) (by kernel_rfl) (by simp) ?_
     refine anyN_cons 4 rfl (by rfl) (fun K hK => ?_) AllReady.nil
     go_simp
     refine hK.out _ _ ?_
     clear hK K
     try simp only [aP]
     refine wpAny_ready (rs := [5]) (by kernel_rfl) (by simp) ?_
     refine anyN_cons 5 rfl (by rfl) (fun K hK => ?_) AllReady.nil
     go_simp
     refine (newer_any p5 q5 c5 r (s - 1) w5 HP5.out).mono ?_
     rintro e w6 ⟨rfl,hb6⟩
     dsimp only
     rw [show newr r (s - 1) = false from hnw]
     have HB6:Hid (Below w1.heap.size w1 w6) := (hb.out.drew.trans (HB5.out.mono hb.out.size)).trans (hb6.mono (Nat.le_trans hb.out.size HB5.out.size))
     clear hb6
     refine hK.out _ _ ?_
     clear hK K
     try simp only [aP]
     refine wpAny_done (by kernel_rfl) ?_ _
     refine NoPanic.normal ?_
     go_wp2_with fail
     go_roundw
     case rel => exact ⟨j + 1,by omega,by go_num,HB6,fun j2 h2 x' r' e1 e2 => by
      by_cases e3:j2 < j
      ·exact hno.out j2 e3 x' r' e1 e2
      ·have e4:j2 = j := by omega
       subst e4
       have := HR.out.1.symm.trans e1
       cases this
       have := HR.out.2.1.symm.trans e2
       cases this
       exact hnw⟩
     case measure => simp [intOf]; omega
    ·go_simp
     refine hK.out _ _ ?_
     clear hK K
     try simp only [aP]
     refine wpAny_ready (rs := [2,4]) (by kernel_rfl) (by simp) ?_
     refine anyN_cons 2 rfl (by rfl) (fun K hK => ?_) (anyN_cons 4 rfl (by rfl) (fun K hK => ?_) AllReady.nil)
     ·go_simp
      refine C3.out.mono ?_
      rintro e w5 ⟨⟨v5,rfl,p5,q5,c5,rfl,hs5⟩,hb5⟩
      dsimp only
      have x5 := (hb5.cell (p := ⟨w.heap.size,0,none⟩) hxd).trans x0d
      have HB5:Hid (Below _ _ _) := hb5
      have HP5:Hid (Pst _ _ _) := hs5.pst
      clear hb5 hs5
      refine hK.out _ _ ?_
      clear hK K
      try simp only [aP]
      refine wpAny_ready (rs := [4]) (by kernel_rfl) (by simp) ?_
      refine anyN_cons 4 rfl (by rfl) (fun K hK => ?_) AllReady.nil
      go_simp
      refine hK.out _ _ ?_
      clear hK K
      try simp only [aP]
      refine wpAny_ready (rs := [5]) (by kernel_rfl) (by simp) ?_
      refine anyN_cons 5 rfl (by rfl) (fun K hK => ?_) AllReady.nil
      go_simp
      refine (newer_any p5 q5 c5 r (s - 1) w5 HP5.out).mono ?_
      rintro e w6 ⟨rfl,hb6⟩
      dsimp only
      rw [show newr r (s - 1) = false from hnw]
      have HB6:Hid (Below w1.heap.size w1 w6) := (hb.out.drew.trans (HB5.out.mono hb.out.size)).trans (hb6.mono (Nat.le_trans hb.out.size HB5.out.size))
      clear hb6
      refine hK.out _ _ ?_
      clear hK K
      try simp only [aP]
      refine wpAny_done (by kernel_rfl) ?_ _
      refine NoPanic.normal ?_
      go_wp2_with fail
      go_roundw
      case rel => exact ⟨j + 1,by omega,by go_num,HB6,fun j2 h2 x' r' e1 e2 => by
       by_cases e3:j2 < j
       ·exact hno.out j2 e3 x' r' e1 e2
       ·have e4:j2 = j := by omega
        subst e4
        have := HR.out.1.symm.trans e1
        cases this
        have := HR.out.2.1.symm.trans e2
        cases this
        exact hnw⟩
      case measure => simp [intOf]; omega
     ·go_simp
      refine hK.out _ _ ?_
      clear hK K
      try simp only [aP]
      refine wpAny_ready (rs := [2]) (by kernel_rfl) (by simp) ?_
      refine anyN_cons 2 rfl (by rfl) (fun K hK => ?_) AllReady.nil
      go_simp
      refine C3.out.mono ?_
      rintro e w5 ⟨⟨v5,rfl,p5,q5,c5,rfl,hs5⟩,hb5⟩
      dsimp only
      have x5 := (hb5.cell (p := ⟨w.heap.size,0,none⟩) hxd).trans x0d
      have HB5:Hid (Below _ _ _) := hb5
      have HP5:Hid (Pst _ _ _) := hs5.pst
      clear hb5 hs5
      refine hK.out _ _ ?_
      clear hK K
      try simp only [aP]
      refine wpAny_ready (rs := [5]) (by kernel_rfl) (by simp) ?_
      refine anyN_cons 5 rfl (by rfl) (fun K hK => ?_) AllReady.nil
      go_simp
      refine (newer_any p5 q5 c5 r (s - 1) w5 HP5.out).mono ?_
      rintro e w6 ⟨rfl,hb6⟩
      dsimp only
      rw [show newr r (s - 1) = false from hnw]
      have HB6:Hid (Below w1.heap.size w1 w6) := (hb.out.drew.trans (HB5.out.mono hb.out.size)).trans (hb6.mono (Nat.le_trans hb.out.size HB5.out.size))
      clear hb6
      refine hK.out _ _ ?_
      clear hK K
      try simp only [aP]
      refine wpAny_done (by kernel_rfl) ?_ _
      refine NoPanic.normal ?_
      go_wp2_with fail
      go_roundw
      case rel => exact ⟨j + 1,by omega,by go_num,HB6,fun j2 h2 x' r' e1 e2 => by
       by_cases e3:j2 < j
       ·exact hno.out j2 e3 x' r' e1 e2
       ·have e4:j2 = j := by omega
        subst e4
        have := HR.out.1.symm.trans e1
        cases this
        have := HR.out.2.1.symm.trans e2
        cases this
        exact hnw⟩
      case measure => simp [intOf]; omega

end Go.Proofs.YtcibcfghkidncaaGreatDoor
