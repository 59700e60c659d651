/- The document's store: Prune. The document's store: with. A store: Write. The walk of the document's Put. -/
import Derived.Test.YtcibcfghkidncaaGreatDoorGMSto4
import Derived.Test.YtcibcfghkidncaaGreatDoorGFChn8
import Derived.Test.YtcibcfghkidncaaGreatDoorGMAny9
import Derived.Test.YtcibcfghkidncaaGreatDoorGWCpy
import Derived.Test.YtcibcfghkidncaaGreatDoorGWSto14h
import Derived.Test.YtcibcfghkidncaaGreatDoorGWTop8
namespace Go.Proofs.YtcibcfghkidncaaGreatDoor
open Go.RowKit Go.Lib
set_option maxRecDepth 100000

theorem wntL_le {J:Nat} (s:Int):∀ (L:List (Nat × Rs)),(∀ q ∈ L,OkR J q.2) → wntL s L ≤ L.length * J
 | [],_ => by simp [wntL]
 | q :: L,h => by
  have h1 := wntL_le s L (fun x hx => h x (List.mem_cons_of_mem _ hx))
  have h2 := (h q List.mem_cons_self).nL
  have e:wntL s (q :: L) = (q.2.L.length - (prnL q.2.L s).length) + wntL s L := by simp [wntL]
  rw [e,List.length_cons,Nat.succ_mul]
  omega
theorem row_ver {w:World} {g:Nat} {k tx:Int} {pl pw:Option Addr} {nl cl nw cw:Nat} (h:Box w g #[.int .i64 k,.slice pl nl cl,.int .i64 tx,.slice pw nw cw] 77) (q':Option Addr) (n' c':Nat) :
  Box (w.setCell ⟨g,1,none⟩ (.slice q' n' c')) g #[.int .i64 k,.slice q' n' c',.int .i64 tx,.slice pw nw cw] 77 ∧ ImV w (w.setCell ⟨g,1,none⟩ (.slice q' n' c')) ∧ Frm w (w.setCell ⟨g,1,none⟩ (.slice q' n' c')) (one1 g) :=
 ⟨h.set (i := 1) (.slice q' n' c'),ImV.set h (pln4 ..),frm_set w g 1 _ (.inl rfl)⟩

set_option maxHeartbeats 4000000 in
theorem pruneD_any (B0 most J:Nat) (v:Value) (L:List (Nat × Rs)) (s:Int) (w:World) (h:DocS w B0 v L) (hO:∀ q ∈ L,OkR J q.2) (hl:L.length ≤ 65536) (hJ:J ≤ 3518437208882) :
  Calls Tryz.prog 40 #[.agg #[.int .i64 (most:Nat),v],.int .u64 s] w fun e w' => (∃ v' gv,e = .returned (.tuple #[.agg #[.int .i64 (most:Nat),v'],.int .i64 (wntL s L:Nat),gv]) ∧ DocS w' w.heap.size v' (outL (prnR s) L) ∧ OwnI w' w.heap.size gv (goneL (prnR s) L)) ∧ Below w.heap.size w w' := by
 obtain ⟨p,c,rfl,_⟩ := h.len
 have HD:Hid (DocS w B0 (.slice p L.length c) L) := h
 have H0:Hid (DL w _ _ _ _ _ _ _ _ _ ∧ GL _ _ _ _) := DL.start4 w most (.slice p L.length c)
 have HO:Hid (∀ q ∈ L,OkR J q.2) := hO
 have HWm:Hid (∀ j,wntL s (L.take j) ≤ 65536 * J) := fun j => by
  refine Nat.le_trans (wntL_le s (L.take j) (fun q hq => hO q (List.mem_of_mem_take hq))) (Nat.mul_le_mul_right J ?_)
  rw [List.length_take]
  omega
 clear h hO
 obtain ⟨n,hn⟩:∃ n,L.length = n := ⟨_,rfl⟩
 rw [hn] at HD H0 hl
 rw [hn]
 have HN:Hid (L.length = n) := hn
 clear hn
 go_enter Tryz.func40,Tryz.ntmps40
 go_upto_region 2 with fail
 generalize ((((w.alloc (.cells #[.int .i64 (most:Nat),.slice p n c] 29)).alloc (.cells #[.int .i64 0,.slice none 0 0] 29)).alloc (.cells #[] 3)).alloc (.cells #[.int .i64 (most:Nat),.slice none 0 0] 29)) = w0 at *
 go_wp2_with fail
 go_loopw [8,9,10] (fun a gv i wq => ∃ (j:Nat) (u:Value),j ≤ n ∧ i = .int .i64 (j:Int) ∧ a = .int .i64 ((wntL s (L.take j):Nat):Int) ∧ Hid (DL w wq (w.heap.size + 4) most (.slice p n c) u (outL (prnR s) (L.take j)) w.heap.size (w.heap.size + 1) (w.heap.size + 1 + 1 + 1)) ∧ Hid (GL wq (w.heap.size + 2) gv (goneL (prnR s) (L.take j)))) (fun _ _ i _ => n - (intOf i).toNat)
 case atStart => exact ⟨0,_,Nat.zero_le _,by go_num,by simp [wntL],by rw [outL_zero]; exact H0.out.1,by rw [goneL_zero]; exact H0.out.2⟩
 case round =>
  obtain ⟨j,u,hj,rfl,rfl,HL0,HK0⟩ := hrel
  obtain ⟨s0,s1,o0,o1,o2,r0,r1,_,_⟩ := HL0.out.cells
  have HA:Hid ((outL (prnR s) (L.take j)).length ≤ 65536 ∧ (goneL (prnR s) (L.take j)).length ≤ 65536) := ⟨Nat.le_trans (outL_len _ _ _) (by rw [HN.out]; exact hl),Nat.le_trans (goneL_len _ _ _) (by rw [HN.out]; exact hl)⟩
  have hA8:((goneL (prnR s) (L.take j)).length + 1) * 8 ≤ 140737488355328 := by have := HA.out.2; omega
  have hA9:(goneL (prnR s) (L.take j)).length + 1 ≤ 140737488355328 := by have := HA.out.2; omega
  obtain ⟨pu,nu,cu,e⟩:∃ pu nu cu,u = .slice pu nu cu := by
   obtain ⟨pu,cu,e,_⟩ := HL0.out.len
   exact ⟨pu,_,cu,e⟩
  subst e
  obtain ⟨pg,ng,cg,e⟩ := HK0.out.len
  subst e
  by_cases hj0:j = n
  ·subst hj0
   have HL2:Hid (DL w wr (w.heap.size + 4) most (.slice p j c) (.slice pu nu cu) (outL (prnR s) L) w.heap.size (w.heap.size + 1) (w.heap.size + 1 + 1 + 1)) := by
    have h1 := HL0.out
    rw [← HN.out,List.take_length,HN.out] at h1
    exact h1
   have HK2:Hid (GL wr (w.heap.size + 2) (.slice pg ng cg) (goneL (prnR s) L)) := by
    have h1 := HK0.out
    rw [← HN.out,List.take_length] at h1
    exact h1
   have HW2:Hid (wntL s (L.take j) = wntL s L) := by
    show _ = _
    rw [← HN.out,List.take_length]
   clear HL0 HK0 HA hA8 hA9
   generalize wntL s (L.take j) = aw at *
   go_wp2_with fail
   obtain ⟨f0,f1,fd,fb⟩ := HL2.out.fin (by omega)
   have hK9 := HK2.out.frm ((frm_set wr (w.heap.size + 1) 0 (.int .i64 (most:Nat)) (F := one1 (w.heap.size + 1)) (.inl rfl)).trans (frm_set (wr.setCell ⟨w.heap.size + 1,0,none⟩ (.int .i64 (most:Nat))) (w.heap.size + 1) 1 (.slice pu nu cu) (F := one1 (w.heap.size + 1)) (.inl rfl)) (fun k hk => .inl hk)) (fun g hg e => by
    have h1 := (World.ownsRow.lt HK2.out.own g hg).1
    have:g = w.heap.size + 1 := e
    omega)
   generalize (wr.setCell ⟨w.heap.size + 1,0,none⟩ (.int .i64 (most:Nat))).setCell ⟨w.heap.size + 1,1,none⟩ (.slice pu nu cu) = w9 at *
   (try simp only [Exit.inBlock,Exit.then])
   refine bodyPost_ret (v := .tuple #[.agg #[.int .i64 (most:Nat),.slice pu nu cu],.int .i64 (aw:Nat),.slice pg ng cg]) (by simp [results,Tryz.results40,go_sem,f0,f1]) rfl ?_
   exact ⟨⟨_,_,by rw [HW2.out],fd,owns_base hK9.own (by omega)⟩,fb⟩
  ·have hj1:j < L.length := by rw [HN.out]; omega
   have hjn:j < n := by omega
   obtain ⟨⟨k,rL,tx,rW⟩,hq⟩:∃ q,L[j] = q := ⟨_,rfl⟩
   have HR:Hid (OkR J ⟨rL,tx,rW⟩) := by
    have := HO.out _ (List.getElem_mem hj1)
    rw [hq] at this
    exact this
   have HIn:Hid (thr ⟨prnL rL s,tx,rW⟩ = true → outL (prnR s) (L.take (j + 1)) = outL (prnR s) (L.take j) ++ [(k,⟨prnL rL s,tx,rW⟩)] ∧ goneL (prnR s) (L.take (j + 1)) = goneL (prnR s) (L.take j)) := by
    intro h9
    have h1 := outL_in (g := (prnR s)) hj1 (by rw [hq]; exact h9)
    have h2 := goneL_off (g := (prnR s)) hj1 (by rw [hq]; exact h9)
    rw [hq] at h1
    exact ⟨h1,h2⟩
   have HOff:Hid (thr ⟨prnL rL s,tx,rW⟩ = false → outL (prnR s) (L.take (j + 1)) = outL (prnR s) (L.take j) ∧ goneL (prnR s) (L.take (j + 1)) = goneL (prnR s) (L.take j) ++ [k]) := by
    intro h9
    have h1 := outL_off (g := (prnR s)) hj1 (by rw [hq]; exact h9)
    have h2 := goneL_in (g := (prnR s)) hj1 (by rw [hq]; exact h9)
    rw [hq] at h2
    exact ⟨h1,h2⟩
   have HWn0:wntL s (L.take (j + 1)) = wntL s (L.take j) + (rL.length - (prnL rL s).length) := by
    have h1 := wntL_in (s := s) hj1
    rw [hq] at h1
    exact h1
   have hsum:((wntL s (L.take j):Nat):Int) + ((rL.length - (prnL rL s).length:Nat):Int) < 9223372036854775808 := by
    have h1 := HWm.out (j + 1)
    rw [HWn0] at h1
    omega
   have HWn:Hid (wntL s (L.take (j + 1)) = wntL s (L.take j) + (rL.length - (prnL rL s).length)) := HWn0
   clear HWn0
   obtain ⟨g,pl,cl,pw,cw,e,⟨a0,a1,a2,a3⟩,SL0,SW0⟩ := HL0.out.row HD.out hj1 hq
   subst e
   clear hq hj1
   obtain ⟨bX,bB,bS⟩ := one_new wr #[.int .i64 (k:Nat),.slice pl rL.length cl,.int .i64 tx,.slice pw rW.length cw] 77
   have HLx := HL0.out.on bB
   have HKx := HK0.out.on bB
   have SLx := SL0.imm (Imm.of_below bB)
   have SWx := SW0.imm (Imm.of_below bB)
   have C1:Hid (Calls _ _ _ _ _) := rprune_any rL pl cl s _ SLx.rd (by have h1 := HR.out.nL; have h2:rL.length ≤ J := h1; omega) HR.out.sL
   have HX:Hid (Box _ _ _ _) := bX
   have HL:Hid (DL w _ _ _ _ _ _ _ _ _) := HLx
   have HK:Hid (GL _ _ _ _) := HKx
   have SW:Hid (SlR .i64 _ _ _) := SWx
   have HBx:Hid (wr.heap.size < (wr.alloc (.cells #[.int .i64 (k:Nat),.slice pl rL.length cl,.int .i64 tx,.slice pw rW.length cw] 77)).heap.size ∧ w.heap.size + 4 ≤ wr.heap.size ∧ (Value.slice pu nu cu).ownBlock ≠ some wr.heap.size ∧ (Value.slice pg ng cg).ownBlock ≠ some wr.heap.size) := ⟨by rw [bS]; omega,HL0.out.hB,fun e => by have := (HL0.out.d.1.lt _ e).2; omega,fun e => by have := (World.ownsRow.lt HK0.out.own _ e).2; omega⟩
   clear bX bB bS HLx HKx SLx SWx SL0 SW0 HL0 HK0
   have HT:Hid (thr ⟨prnL rL s,tx,rW⟩ = (decide (0 < (prnL rL s).length) || decide (0 < rW.length))) := thr_doc (HR.out.prn s)
   generalize rW.length = nw at *
   generalize hdw:rL.length - (prnL rL s).length = dw at *
   clear hdw
   generalize rL.length = nl at *
   generalize hwn:wntL s (L.take j) = aw at *
   go_upto_region 6 with fail
   generalize (wr.alloc (.cells #[.int .i64 (k:Nat),.slice pl nl cl,.int .i64 tx,.slice pw nw cw] 77)) = wx at *
   obtain ⟨⟨x0,x1,x2,x3⟩,_⟩ := box4 HX.out
   go_wp2_with fail
   refine C1.out.mono ?_
   rintro e w1 ⟨⟨vb,Zb,rfl,hZb,hHb⟩,hb1⟩
   obtain ⟨p',c',rfl,hn1,hr1⟩ := hHb.rd hb1.size hZb
   have hX1 := HX.out.on hb1
   have hL1 := HL.out.on hb1
   have hK1 := HK.out.on hb1
   have sw1 := SW.out.imm (Imm.of_below hb1)
   obtain ⟨⟨y0,y1,y2,y3⟩,z1,z2,z3⟩ := box4 hX1
   obtain ⟨b1,b2,b3⟩ := row_ver hX1 p' (prnL rL s).length c'
   have HX3:Hid (Box _ _ _ _) := b1
   have HL3:Hid (DL w _ _ _ _ _ _ _ _ _) := hL1.frm b3 b2 HBx.out.2.1 HBx.out.2.2.1
   have HK3:Hid (GL _ _ _ _) := hK1.frm b3 (fun g hg e => HBx.out.2.2.2 (by rw [hg,show g = wr.heap.size from e]))
   have SL3:Hid (SlR .u64 _ (.slice p' (prnL rL s).length c') (prnL rL s)) := SlR.imv (w := w1) ⟨p',c',rfl,hr1,fun _ => hn1⟩ b2
   have SW3:Hid (SlR .i64 _ _ _) := sw1.imv b2
   clear hX1 hL1 hK1 sw1 b1 b2 b3 hr1 hn1 hHb hZb C1 HX HL HK SW
   generalize hnf:(prnL rL s).length = nf at *
   clear hnf
   go_upto_region 9 with fail
   generalize (w1.setCell ⟨wr.heap.size,1,none⟩ (.slice p' nf c')) = w2 at *
   obtain ⟨⟨x0,x1,x2,x3⟩,_⟩ := box4 HX3.out
   obtain ⟨_,s1,_,o1,o2,_⟩ := HL3.out.cells
   have hb2 := HL3.out.hB
   have hth := HT.out
   rcases Nat.eq_zero_or_pos nf with rfl | hz
   ·rcases Nat.eq_zero_or_pos nw with rfl | hy
    ·have HSt:Hid (outL (prnR s) (L.take (j + 1)) = outL (prnR s) (L.take j) ∧ goneL (prnR s) (L.take (j + 1)) = goneL (prnR s) (L.take j) ++ [k]) := HOff.out hth
     go_wp2_with (first | (at_builtin; go_loud (refine wpList_app1n w2 rfl (.tmp 53) (.tmp 56) 3 56 _ 8 rfl Tryz.underlying56 info_int rfl (nb_int _ _) (w.heap.size + 2) _ _ _ (by rfl) HK3.out.own HK3.out.nb (.int .i64 (k:Nat)) rfl (nb_int _ _) _ rfl (by simp) hA8 hA9 HK3.out.hb ?_); intro v6 w6 h6 h7 h8 h9 h10))
     have HL6 := HL3.out.gone HK3.out (by omega) h7
     have HK6:GL w6 (w.heap.size + 2) v6 (goneL (prnR s) (L.take j) ++ [k]) := ⟨OwnI.app h6,h10,Nat.le_trans HK3.out.hb (Nat.le_trans (by simp) h7.size)⟩
     go_roundw
     case rel => exact ⟨j + 1,_,by omega,by go_num,by rw [HWn.out]; go_num,by rw [HSt.out.1]; exact HL6,by rw [HSt.out.2]; exact HK6⟩
     case measure => simp [intOf]; omega
    ·rw [decide_eq_true hy] at hth
     have ey:(((nw:Nat):Int) == 0) = false := by simp; omega
     have HSt:Hid (outL (prnR s) (L.take (j + 1)) = outL (prnR s) (L.take j) ++ [(k,⟨prnL rL s,tx,rW⟩)] ∧ goneL (prnR s) (L.take (j + 1)) = goneL (prnR s) (L.take j)) := HIn.out hth
     go_wp2_with (first | (at_builtin; go_loud (refine wpList_doc w2 rfl (.tmp 59) (.tmp 61) rfl (w.heap.size + 4) _ _ (by rfl) HL3.out.d k ⟨prnL rL s,tx,rW⟩ _ _ SL3.out SW3.out _ rfl (by simp) HA.out.1 hb2 ?_); intro v6 w6 d6 g6 f6 i6; obtain ⟨k1,k2⟩ := HL3.out.o6 f6; obtain ⟨p6,n6,c6,e6⟩:∃ p6 n6 c6,v6 = .slice p6 n6 c6 := (by obtain ⟨p6,c6,e6,_⟩ := d6.1.len; exact ⟨p6,_,c6,e6⟩); subst e6; clear g6))
     have HL6 := HL3.out.app d6 f6
     have HK6 := HK3.out.row (v6 := .slice p6 n6 c6) HL3.out f6
     go_roundw
     case rel => exact ⟨j + 1,_,by omega,by go_num,by rw [HWn.out]; go_num,by rw [HSt.out.1]; exact HL6,by rw [HSt.out.2]; exact HK6⟩
     case measure => simp [intOf]; omega
   ·rw [decide_eq_true hz] at hth
    have ez:(((nf:Nat):Int) == 0) = false := by simp; omega
    have HSt:Hid (outL (prnR s) (L.take (j + 1)) = outL (prnR s) (L.take j) ++ [(k,⟨prnL rL s,tx,rW⟩)] ∧ goneL (prnR s) (L.take (j + 1)) = goneL (prnR s) (L.take j)) := HIn.out hth
    go_wp2_with (first | (at_builtin; go_loud (refine wpList_doc w2 rfl (.tmp 59) (.tmp 61) rfl (w.heap.size + 4) _ _ (by rfl) HL3.out.d k ⟨prnL rL s,tx,rW⟩ _ _ SL3.out SW3.out _ rfl (by simp) HA.out.1 hb2 ?_); intro v6 w6 d6 g6 f6 i6; obtain ⟨k1,k2⟩ := HL3.out.o6 f6; obtain ⟨p6,n6,c6,e6⟩:∃ p6 n6 c6,v6 = .slice p6 n6 c6 := (by obtain ⟨p6,c6,e6,_⟩ := d6.1.len; exact ⟨p6,_,c6,e6⟩); subst e6; clear g6))
    have HL6 := HL3.out.app d6 f6
    have HK6 := HK3.out.row (v6 := .slice p6 n6 c6) HL3.out f6
    go_roundw
    case rel => exact ⟨j + 1,_,by omega,by go_num,by rw [HWn.out]; go_num,by rw [HSt.out.1]; exact HL6,by rw [HSt.out.2]; exact HK6⟩
    case measure => simp [intOf]; omega

end Go.Proofs.YtcibcfghkidncaaGreatDoor

namespace Go.Proofs.YtcibcfghkidncaaGreatDoor
open Go.RowKit Go.Lib
set_option maxRecDepth 100000

theorem wp_doc {o:Oper} {a:Act} {KK:Act → World → Prop} {Q:Exit → Act → World → Prop} (w:World) (s x:Operand)
  (ho:o.op = .call { callee := .builtin .append,args := #[s,x],argTypes := #[27,27] })
  (B:Nat) (v:Value) (L:List (Nat × Rs)) (hs:a.eval s = v) (hD:DocN w B v L) (k:Nat) (r:Rs) (vl vw:Value) (hl:SlR .u64 w vl r.L) (hw:SlR .i64 w vw r.W)
  (g:Nat) (hx:a.eval x = .slice (some ⟨g,0,none⟩) 1 1) (hg:Box w g #[.int .i64 (k:Nat),vl,.int .i64 r.tx,vw] 77) (hlen:L.length ≤ 65536) (hbase:B ≤ w.heap.size)
  (h:∀ v' w',DocN w' B v' (L ++ [(k,r)]) → Frm w w' (fun g => v.ownBlock = some g) → KK (a.put o.dst v') w'):Oper.wp Tryz.prog o a w KK Q := by
 obtain ⟨i,hi,hz0,hz1,hz2⟩ := info_parts1 info_row
 obtain ⟨⟨Z,rfl,hown,hz⟩,hN⟩ := hD
 rw [List.length_map] at hlen
 have hus:∀ u ∈ [Value.int .i64 (k:Nat),vl,.int .i64 r.tx,vw],nb u ∧ u.oneCell' = true := by
  intro u hu
  simp only [List.mem_cons,List.not_mem_nil,or_false] at hu
  rcases hu with rfl | rfl | rfl | rfl
  ·exact ⟨nb_int _ _,rfl⟩
  ·exact hl.nbv
  ·exact ⟨nb_int _ _,rfl⟩
  ·exact hw.nbv
 have hn1:∀ j y,[Value.int .i64 (k:Nat),vl,.int .i64 r.tx,vw][j]? = some y → w.cell? ((⟨g,0,none⟩:Addr).add j) = some y := by
  intro j y hj
  have e:(⟨g,0,none⟩:Addr).add j = ⟨g,j,none⟩ := by unfold Addr.add; split <;> simp_all
  rw [e]
  exact box_cell hg (by simpa using hj)
 obtain ⟨v',w',hr,h2,h3,h4,h5⟩ := run_append_own_at (P := Tryz.prog) w B 27 o.type 77 i _ 4 64 Tryz.underlying27 hi hz0 hz1 hz2 (by rfl) (by decide) v Z.length _ hown ⟨g,0,none⟩ 1 1 [.int .i64 (k:Nat),vl,.int .i64 r.tx,vw] rfl hn1 (fun y hy => (hus y hy).2) (by unfold maxLen; omega) (by omega) hbase
 have hnb := append_nbN (P := Tryz.prog) w B 27 o.type 77 i _ 4 64 Tryz.underlying27 hi hz0 hz1 hz2 (by rfl) (by decide) (nbs_list (l := [.int .i64 0,.slice none 0 0,.int .i64 0,.slice none 0 0]) (fun u hu => by
  simp only [List.mem_cons,List.not_mem_nil,or_false] at hu
  rcases hu with rfl | rfl | rfl | rfl
  ·exact nb_int _ _
  ·exact nb_slice _ _ _
  ·exact nb_int _ _
  ·exact nb_slice _ _ _)) v Z.length _ hown hN ⟨g,0,none⟩ 1 [.int .i64 (k:Nat),vl,.int .i64 r.tx,vw] rfl hn1 (fun y hy => (hus y hy).2) (fun y hy => (hus y hy).1) (by unfold maxLen; omega) (by omega) hr
 have hF:Frm w w' (fun g => v.ownBlock = some g) := Frm.of_grown h3 (fun g hg => .inl hg)
 have hI:ImV w w' := by
  refine ⟨h3.size,fun k cs T z hk hc => ?_⟩
  by_cases e:v.ownBlock = some k
  ·exact absurd (hN k cs T z e hk).pln hc
  ·exact h3.block k (lt_of_block hk) (fun h => e h.symm)
 unfold Oper.wp execOp
 simp only [ho,resolve,invoke,builtin,Sem.run_bind,Sem.run_pure,Result.andThen_ok,List.map_toArray,List.map_cons,List.map_nil,hs,hx,hr]
 refine h v' w' ⟨⟨Z ++ [((k,r),(vl,vw))],by simp,?_,fun z hm => ?_⟩,hnb⟩ hF
 ·rw [List.length_append,List.flatMap_append]
  simpa [rw4] using h2
 ·rcases List.mem_append.1 hm with hm | hm
  ·exact ⟨(hz z hm).1.imv hI,(hz z hm).2.imv hI⟩
  ·rw [List.mem_singleton] at hm
   subst hm
   exact ⟨hl.imv hI,hw.imv hI⟩
theorem DL.fins {w wq:World} {B most:Nat} {sv u:Value} {A A':List (Nat × Rs)} {b0 br bo:Nat} (h:DL w wq B most sv u A b0 br bo):∀ v6 w6,DocN w6 B v6 A' → Frm wq w6 (fun g => u.ownBlock = some g) → (∃ p6 n6 c6,v6 = .slice p6 n6 c6) ∧ w6.cell? ⟨bo,1,none⟩ = some u ∧ w6.frozen? ⟨bo,1,none⟩ = false ∧ DL w (w6.setCell ⟨bo,1,none⟩ v6) B most sv v6 A' b0 br bo := by
 intro v6 w6 d6 f6
 obtain ⟨p6,c6,e6,_⟩ := d6.1.len
 obtain ⟨k1,k2⟩ := h.o6 f6
 exact ⟨⟨p6,_,c6,e6⟩,k1,k2,h.app d6 f6⟩
theorem DL.start5 (w:World) (most:Nat) (sv:Value) (cs:Array Value):DL w ((((w.alloc (.cells #[.int .i64 (most:Nat),sv] 29)).alloc (.cells cs 77)).alloc (.cells #[.int .i64 0,.slice none 0 0] 29)).alloc (.cells #[.int .i64 (most:Nat),.slice none 0 0] 29)) (w.heap.size + 4) most sv (.slice none 0 0) [] w.heap.size (w.heap.size + 1 + 1) (w.heap.size + 1 + 1 + 1) ∧ Box ((((w.alloc (.cells #[.int .i64 (most:Nat),sv] 29)).alloc (.cells cs 77)).alloc (.cells #[.int .i64 0,.slice none 0 0] 29)).alloc (.cells #[.int .i64 (most:Nat),.slice none 0 0] 29)) (w.heap.size + 1) cs 77 := by
 obtain ⟨a1,a2,a3,a4⟩ := two_new w #[.int .i64 (most:Nat),sv] cs 29 77
 obtain ⟨b1,b4,b2,b3⟩ := two_new ((w.alloc (.cells #[.int .i64 (most:Nat),sv] 29)).alloc (.cells cs 77)) #[.int .i64 0,.slice none 0 0] #[.int .i64 (most:Nat),.slice none 0 0] 29 29
 rw [a4] at b1 b4
 exact ⟨⟨a3.trans (b2.mono a3.size),a1.on b2,b1,b4,DocN.nil _ _,by omega,by rw [b3,a4]; exact Nat.le_refl _⟩,a2.on b2⟩

set_option maxHeartbeats 8000000 in
theorem withD_any (B0 most:Nat) (v:Value) (L:List (Nat × Rs)) (at0 kx:Nat) (xL xW:List Rw) (tx0:Int) (px py:Option Addr) (cx cy:Nat) (w:World) (h:DocS w B0 v L) (hl:L.length ≤ 65536) (hat:at0 < L.length) (hxl:SlR .u64 w (.slice px xL.length cx) xL) (hxw:SlR .i64 w (.slice py xW.length cy) xW) (hne:0 < xW.length) :
  Calls Tryz.prog 69 #[.agg #[.int .i64 (most:Nat),v],.int .i64 (at0:Nat),.agg #[.int .i64 (kx:Nat),.slice px xL.length cx,.int .i64 tx0,.slice py xW.length cy]] w fun e w' => (∃ v',e = .returned (.agg #[.int .i64 (most:Nat),v']) ∧ DocS w' w.heap.size v' (L.set at0 (kx,⟨xL,tx0,xW⟩))) ∧ Below w.heap.size w w' := by
 obtain ⟨p,c,rfl,_⟩ := h.len
 have HD:Hid (DocS w B0 (.slice p L.length c) L) := h
 have H0:Hid (DL w _ _ _ _ _ _ _ _ _ ∧ Box _ _ _ _) := DL.start5 w most (.slice p L.length c) #[.int .i64 (kx:Nat),.slice px xL.length cx,.int .i64 tx0,.slice py xW.length cy]
 have HSx:Hid (SlR .u64 w (.slice px xL.length cx) xL ∧ SlR .i64 w (.slice py xW.length cy) xW) := ⟨hxl,hxw⟩
 have HLl:Hid (∀ j,((L.set at0 (kx,⟨xL,tx0,xW⟩)).take j).length ≤ L.length) := fun j => by rw [List.length_take,List.length_set]; omega
 clear h hxl hxw
 obtain ⟨n,hn⟩:∃ n,L.length = n := ⟨_,rfl⟩
 rw [hn] at HD H0 hl HLl hat
 rw [hn]
 have HN:Hid (L.length = n) := hn
 clear hn
 generalize xL.length = nx at *
 generalize xW.length = ny at *
 go_enter Tryz.func69,Tryz.ntmps69
 go_upto_region 2 with fail
 generalize ((((w.alloc (.cells #[.int .i64 (most:Nat),.slice p n c] 29)).alloc (.cells #[.int .i64 (kx:Nat),.slice px nx cx,.int .i64 tx0,.slice py ny cy] 77)).alloc (.cells #[.int .i64 0,.slice none 0 0] 29)).alloc (.cells #[.int .i64 (most:Nat),.slice none 0 0] 29)) = w0 at *
 go_wp2_with fail
 go_loopw [8] (fun i wq => ∃ (j:Nat) (u:Value),j ≤ n ∧ i = .int .i64 (j:Int) ∧ Hid (DL w wq (w.heap.size + 4) most (.slice p n c) u ((L.set at0 (kx,⟨xL,tx0,xW⟩)).take j) w.heap.size (w.heap.size + 1 + 1) (w.heap.size + 1 + 1 + 1)) ∧ Hid (Box wq (w.heap.size + 1) #[.int .i64 (kx:Nat),.slice px nx cx,.int .i64 tx0,.slice py ny cy] 77)) (fun i _ => n - (intOf i).toNat)
 case atStart => exact ⟨0,_,Nat.zero_le _,by go_num,H0.out.1,H0.out.2⟩
 case round =>
  obtain ⟨j,u,hj,rfl,HL,HX⟩ := hrel
  obtain ⟨s0,s1,o0,o1,o2,r0,r1,_,_⟩ := HL.out.cells
  have HA:Hid (((L.set at0 (kx,⟨xL,tx0,xW⟩)).take j).length ≤ 65536) := Nat.le_trans (HLl.out j) hl
  obtain ⟨pu,nu,cu,e⟩:∃ pu nu cu,u = .slice pu nu cu := by
   obtain ⟨pu,cu,e,_⟩ := HL.out.len
   exact ⟨pu,_,cu,e⟩
  subst e
  by_cases hj0:j = n
  ·subst hj0
   have HL2:Hid (DL w wr (w.heap.size + 4) most (.slice p j c) (.slice pu nu cu) (L.set at0 (kx,⟨xL,tx0,xW⟩)) w.heap.size (w.heap.size + 1 + 1) (w.heap.size + 1 + 1 + 1)) := by
    have h1 := HL.out
    rw [List.take_of_length_le (by rw [List.length_set,HN.out]; exact Nat.le_refl _)] at h1
    exact h1
   clear HL HA HX
   go_wp2_with fail
   obtain ⟨f0,f1,fd,fb⟩ := HL2.out.fin (by omega)
   generalize (wr.setCell ⟨w.heap.size + 1 + 1,0,none⟩ (.int .i64 (most:Nat))).setCell ⟨w.heap.size + 1 + 1,1,none⟩ (.slice pu nu cu) = w9 at *
   (try simp only [Exit.inBlock,Exit.then])
   refine bodyPost_ret (v := .agg #[.int .i64 (most:Nat),.slice pu nu cu]) (by simp [results,Tryz.results69,go_sem,f0,f1]) rfl ?_
   exact ⟨⟨_,rfl,fd⟩,fb⟩
  ·have hj1:j < L.length := by rw [HN.out]; omega
   have hjn:j < n := by omega
   have HB1:Hid (w.heap.size + 1 < w.heap.size + 4 ∧ w.heap.size + 4 ≤ wr.heap.size) := ⟨by omega,HL.out.hB⟩
   have HXk:Hid (∀ (p6:Value) (A9:List (Nat × Rs)),True) := fun _ _ => trivial
   clear HXk
   have HDu:Hid (∀ g,(Value.slice pu nu cu).ownBlock = some g → w.heap.size + 4 ≤ g) := fun g hg => (HL.out.d.1.lt g hg).1
   by_cases hat1:j = at0
   ·subst hat1
    have HSt:Hid ((L.set j (kx,⟨xL,tx0,xW⟩)).take (j + 1) = (L.set j (kx,⟨xL,tx0,xW⟩)).take j ++ [(kx,⟨xL,tx0,xW⟩)]) := by
     show _ = _
     rw [List.take_add_one,List.getElem?_set_self hj1]
     rfl
    have SL := HSx.out.1.imm (Imm.of_below HL.out.bel)
    have SW := HSx.out.2.imm (Imm.of_below HL.out.bel)
    have HSl:Hid (SlR .u64 wr (.slice px nx cx) xL ∧ SlR .i64 wr (.slice py ny cy) xW) := ⟨SL,SW⟩
    clear SL SW hj1
    obtain ⟨⟨x0,x1,x2,x3⟩,_⟩ := box4 HX.out
    have hb2 := HL.out.hB
    rcases Nat.eq_zero_or_pos nx with rfl | hx
    ·go_wp2_with (first | (at_builtin; go_loud (refine wpList_doc wr rfl (.tmp 44) (.tmp 46) rfl (w.heap.size + 4) _ _ (by rfl) HL.out.d kx ⟨xL,tx0,xW⟩ _ _ HSl.out.1 HSl.out.2 _ rfl (by simp) HA.out hb2 ?_); intro v6 w6 d6 g6 f6 i6; obtain ⟨k1,k2⟩ := HL.out.o6 f6; obtain ⟨p6,n6,c6,e6⟩:∃ p6 n6 c6,v6 = .slice p6 n6 c6 := (by obtain ⟨p6,c6,e6,_⟩ := d6.1.len; exact ⟨p6,_,c6,e6⟩); subst e6; clear g6))
     have hl6 := HL.out.app d6 f6
     have hx6 := (HX.out.frm f6 (fun e => by have := HDu.out _ e; omega)).off (i := 1) (.slice p6 n6 c6) (show w.heap.size + 1 ≠ w.heap.size + 1 + 1 + 1 by omega)
     go_roundw
     case rel => exact ⟨j + 1,_,by omega,by go_num,by rw [HSt.out]; exact hl6,hx6⟩
     case measure => simp [intOf]; omega
    ·go_wp2_with (first | (at_builtin; go_loud (refine wpList_doc wr rfl (.tmp 44) (.tmp 46) rfl (w.heap.size + 4) _ _ (by rfl) HL.out.d kx ⟨xL,tx0,xW⟩ _ _ HSl.out.1 HSl.out.2 _ rfl (by simp) HA.out hb2 ?_); intro v6 w6 d6 g6 f6 i6; obtain ⟨k1,k2⟩ := HL.out.o6 f6; obtain ⟨p6,n6,c6,e6⟩:∃ p6 n6 c6,v6 = .slice p6 n6 c6 := (by obtain ⟨p6,c6,e6,_⟩ := d6.1.len; exact ⟨p6,_,c6,e6⟩); subst e6; clear g6))
     have hl6 := HL.out.app d6 f6
     have hx6 := (HX.out.frm f6 (fun e => by have := HDu.out _ e; omega)).off (i := 1) (.slice p6 n6 c6) (show w.heap.size + 1 ≠ w.heap.size + 1 + 1 + 1 by omega)
     go_roundw
     case rel => exact ⟨j + 1,_,by omega,by go_num,by rw [HSt.out]; exact hl6,hx6⟩
     case measure => simp [intOf]; omega
   ·obtain ⟨⟨k,rL,tx,rW⟩,hq⟩:∃ q,L[j] = q := ⟨_,rfl⟩
    have HSt:Hid ((L.set at0 (kx,⟨xL,tx0,xW⟩)).take (j + 1) = (L.set at0 (kx,⟨xL,tx0,xW⟩)).take j ++ [(k,⟨rL,tx,rW⟩)]) := by
     show _ = _
     rw [List.take_add_one,List.getElem?_set_ne (fun e => hat1 e.symm),List.getElem?_eq_getElem hj1,hq]
     rfl
    obtain ⟨g,pl,cl,pw,cw,e,⟨a0,a1,a2,a3⟩,SL,SW⟩ := HL.out.row HD.out hj1 hq
    subst e
    clear hq hj1
    generalize rL.length = nl at *
    generalize rW.length = nw at *
    have bB:Below wr.heap.size wr (wr.alloc (.cells #[.int .i64 (k:Nat),.slice pl nl cl,.int .i64 tx,.slice pw nw cw] 77)).drew := ((Below.refl _ _).alloc (Nat.le_refl _) _).drew
    have HBd:Hid (Box (wr.alloc (.cells #[.int .i64 (k:Nat),.slice pl nl cl,.int .i64 tx,.slice pw nw cw] 77)).drew wr.heap.size #[.int .i64 (k:Nat),.slice pl nl cl,.int .i64 tx,.slice pw nw cw] 77) := Box.new wr _ _
    have HLd:Hid (DL w (wr.alloc (.cells #[.int .i64 (k:Nat),.slice pl nl cl,.int .i64 tx,.slice pw nw cw] 77)).drew _ _ _ _ _ _ _ _) := HL.out.on bB
    have SLd:Hid (SlR .u64 (wr.alloc (.cells #[.int .i64 (k:Nat),.slice pl nl cl,.int .i64 tx,.slice pw nw cw] 77)).drew _ _) := SL.imm (Imm.of_below bB)
    have SWd:Hid (SlR .i64 (wr.alloc (.cells #[.int .i64 (k:Nat),.slice pl nl cl,.int .i64 tx,.slice pw nw cw] 77)).drew _ _) := SW.imm (Imm.of_below bB)
    have hbd := HLd.out.hB
    have HFin:Hid (∀ v6 w6,DocN w6 (w.heap.size + 4) v6 ((L.set at0 (kx,⟨xL,tx0,xW⟩)).take j ++ [(k,⟨rL,tx,rW⟩)]) → Frm (wr.alloc (.cells #[.int .i64 (k:Nat),.slice pl nl cl,.int .i64 tx,.slice pw nw cw] 77)).drew w6 (fun g => (Value.slice pu nu cu).ownBlock = some g) → (∃ p6 n6 c6,v6 = .slice p6 n6 c6) ∧ w6.cell? ⟨w.heap.size + 1 + 1 + 1,1,none⟩ = some (.slice pu nu cu) ∧ w6.frozen? ⟨w.heap.size + 1 + 1 + 1,1,none⟩ = false ∧ DL w (w6.setCell ⟨w.heap.size + 1 + 1 + 1,1,none⟩ v6) (w.heap.size + 4) most (.slice (some ⟨g,0,none⟩) n c) v6 ((L.set at0 (kx,⟨xL,tx0,xW⟩)).take j ++ [(k,⟨rL,tx,rW⟩)]) w.heap.size (w.heap.size + 1 + 1) (w.heap.size + 1 + 1 + 1) ∧ Box (w6.setCell ⟨w.heap.size + 1 + 1 + 1,1,none⟩ v6) (w.heap.size + 1) #[.int .i64 (kx:Nat),.slice px nx cx,.int .i64 tx0,.slice py ny cy] 77) := fun v6 w6 d6 f6 => by
     obtain ⟨z1,z2,z3,z4⟩ := HLd.out.fins v6 w6 d6 f6
     exact ⟨z1,z2,z3,z4,((HX.out.on bB).frm f6 (fun e => by have := HDu.out _ e; omega)).off (i := 1) v6 (show w.heap.size + 1 ≠ w.heap.size + 1 + 1 + 1 by omega)⟩
    obtain ⟨_,_,_,m1,_⟩ := (HL.out.on ((Below.refl _ _).alloc (Nat.le_refl _) (.cells #[.int .i64 (k:Nat),.slice pl nl cl,.int .i64 tx,.slice pw nw cw] 77))).cells
    clear bB SL SW
    have hb:(((j:Nat):Int) == ((at0:Nat):Int)) = false := by simp; omega
    have hb':(((j:Nat):Int) != ((at0:Nat):Int)) = true := by simp; omega
    go_upto_region 6 with fail
    refine wp_region_any (by kernel_rfl) ?_
    change wpAny _ _ _ _ _ _ _ (World.drew _)
    refine tk (v := ?_) 0 rfl ?_ ?_
    rotate_left
    focus
     intro w9
     go_simp
     try with_reducible rfl
    try simp only [aP]
    refine tk (v := ?_) 2 rfl ?_ ?_
    rotate_left
    focus
     intro w9
     go_simp
     try with_reducible rfl
    try simp only [aP]
    refine tk (v := ?_) 4 rfl ?_ ?_
    rotate_left
    focus
     intro w9
     go_simp
     try with_reducible rfl
    try simp only [aP]
    apply laterI4 (α0 := World) (α1 := Option Addr) (α2 := Nat) (α3 := Nat)
    intro hs1_3_6_7_8
    apply later0
    intro hs1_3_6_7
    apply later0
    intro hs3_6_7
    apply later0
    intro hs1_3_6
    apply later0
    intro hs3_6
    apply later0
    intro hs1_3
    apply later0
    intro hs3
    apply later0
    intro hs1
    ·refine wpAny_ready (rs := [1,3]) (by kernel_rfl) (by simp) ?_
     refine anyN_cons 1 rfl (by rfl) (fun K hK => ?_) (anyN_cons 3 rfl (by rfl) (fun K hK => ?_) AllReady.nil)
     ·go_simp
      refine hK.out _ _ ?_
      clear hK K
      try simp only [aP]
      exact hs1
     ·go_simp
      refine hK.out _ _ ?_
      clear hK K
      try simp only [aP]
      refine tk (v := ?_) 5 rfl ?_ ?_
      rotate_left
      focus
       intro w9
       go_simp
       try with_reducible rfl
      try simp only [aP]
      exact hs3
    ·refine wpAny_ready (rs := [3]) (by kernel_rfl) (by simp) ?_
     refine anyN_cons 3 rfl (by rfl) (fun K hK => ?_) AllReady.nil
     go_simp
     refine hK.out _ _ ?_
     clear hK K
     try simp only [aP]
     refine tk (v := ?_) 5 rfl ?_ ?_
     rotate_left
     focus
      intro w9
      go_simp
      try with_reducible rfl
     try simp only [aP]
     exact hs1_3
    ·refine wpAny_ready (rs := [1,6]) (by kernel_rfl) (by simp) ?_
     refine anyN_cons 1 rfl (by rfl) (fun K hK => ?_) (anyN_cons 6 rfl (by rfl) (fun K hK => ?_) AllReady.nil)
     ·go_simp
      refine hK.out _ _ ?_
      clear hK K
      try simp only [aP]
      exact hs1_3
     ·go_simp
      refine hK.out _ _ ?_
      clear hK K
      try simp only [aP]
      exact hs3_6
    ·refine wpAny_ready (rs := [6]) (by kernel_rfl) (by simp) ?_
     refine anyN_cons 6 rfl (by rfl) (fun K hK => ?_) AllReady.nil
     go_simp
     refine hK.out _ _ ?_
     clear hK K
     try simp only [aP]
     exact hs1_3_6
    ·refine wpAny_ready (rs := [1,7]) (by kernel_rfl) (by simp) ?_
     refine anyN_cons 1 rfl (by rfl) (fun K hK => ?_) (anyN_cons 7 rfl (by rfl) (fun K hK => ?_) AllReady.nil)
     ·go_simp
      refine hK.out _ _ ?_
      clear hK K
      try simp only [aP]
      exact hs1_3_6
     ·go_simp
      refine hK.out _ _ ?_
      clear hK K
      try simp only [aP]
      exact hs3_6_7
    ·refine wpAny_ready (rs := [7]) (by kernel_rfl) (by simp) ?_
     refine anyN_cons 7 rfl (by rfl) (fun K hK => ?_) AllReady.nil
     go_simp
     refine hK.out _ _ ?_
     clear hK K
     try simp only [aP]
     exact hs1_3_6_7
    ·refine wpAny_ready (rs := [1]) (by kernel_rfl) (by simp) ?_
     refine anyN_cons 1 rfl (by rfl) (fun K hK => ?_) AllReady.nil
     go_simp
     refine hK.out _ _ ?_
     clear hK K
     try simp only [aP]
     exact hs1_3_6_7
    ·refine wpAny_ready (rs := [8]) (by kernel_rfl) (by simp) ?_
     refine anyN_cons 8 rfl (by rfl) (fun K hK => ?_) AllReady.nil
     refine wp_doc (wr.alloc (.cells #[.int .i64 (k:Nat),.slice pl nl cl,.int .i64 tx,.slice pw nw cw] 77)).drew (.tmp 23) (.tmp 29) rfl (w.heap.size + 4) _ _ (by simp only [Act.eval]; rfl) HLd.out.d k ⟨rL,tx,rW⟩ _ _ SLd.out SWd.out wr.heap.size (by simp only [Act.eval]; rfl) HBd.out HA.out hbd ?_
     intro v6 w6 d6 f6
     obtain ⟨⟨p6,n6,c6,e6⟩,k1,k2,hl6,hx6⟩ := HFin.out v6 w6 d6 f6
     subst e6
     clear d6 f6
     have HQ:Hid (_ ∧ _ ∧ _ ∧ _) := ⟨k1,k2,hl6,hx6⟩
     clear k1 k2 hl6 hx6
     refine hK.out _ _ ?_
     clear hK K
     try simp only [aP]
     refine tk (v := ?_) 9 rfl ?_ ?_
     rotate_left
     focus
      intro w9
      go_simp
      try with_reducible rfl
     try simp only [aP]
     exact hs1_3_6_7_8 w6 p6 n6 c6 HQ
    ·intro w6 p6 n6 c6 HQ
     obtain ⟨k1,k2,hl6,hx6⟩ := HQ.out
     refine wpAny_ready (rs := [10]) (by kernel_rfl) (by simp) ?_
     refine anyN_cons 10 rfl (by rfl) (fun K hK => ?_) AllReady.nil
     go_simp
     refine hK.out _ _ ?_
     clear hK K
     try simp only [aP]
     refine wpAny_done (by kernel_rfl) ?_ _
     go_wp2_with fail
     go_roundw
     case rel => exact ⟨j + 1,_,by omega,by go_num,by rw [HSt.out]; exact hl6,hx6⟩
     case measure => simp [intOf]; omega

end Go.Proofs.YtcibcfghkidncaaGreatDoor

namespace Go.Proofs.YtcibcfghkidncaaGreatDoor
open Go.RowKit Go.Lib Go.Maps
set_option maxRecDepth 100000

set_option maxHeartbeats 8000000 in
theorem writeS_any (B sb most K J:Nat) (M:List Rs) (F:Nat → Prop) (sl txn vn:Int) (vg:Bool) (vr:List Vl) (qv:Option Addr) (cv:Nat) (sn:Int) (w:World) (h:Sto w B sb most M K J F) (h1:-9223372036854775808 ≤ txn) (h2:txn < 9223372036854775808) (hK:K + 2 ≤ 8000000000000000000) (hJ:J + 1 ≤ 3518437208882) (hV:SlV w w.heap.size (.slice qv vr.length cv) vr) (hvr:vr.length ≤ 3518437208882) :
  Calls Tryz.prog 21 #[ptr1 sb,.int .i64 sl,.int .i64 txn,.agg #[.int .i64 vn,.bool vg,.slice qv vr.length cv],.int .u64 sn] w fun e w' => e = .returned (.int .i64 (wriE (getR M sl) txn ⟨vn,vg,vr⟩ sn)) ∧ (∃ F',Sto w' B sb most (wrtM M sl txn ⟨vn,vg,vr⟩ sn) (K + 2) (J + 1) F' ∧ ∀ k,F' k → F k ∨ w.heap.size ≤ k) ∧ Frm w w' F := by
 obtain ⟨pb,dl,dm,pv,tv,C,T,sv,wo,hX,hd0,hI,hW,hF⟩ := h
 obtain ⟨a1,a2,a3,a4⟩ := two_new w #[.int .i64 txn] #[.int .i64 vn,.bool vg,.slice qv vr.length cv] 3 38
 obtain ⟨b1,b2,b3⟩ := one_new ((w.alloc (.cells #[.int .i64 txn] 3)).alloc (.cells #[.int .i64 vn,.bool vg,.slice qv vr.length cv] 38)) #[.int .u64 sn] 39
 rw [a4] at b1
 have hb0:Below w.heap.size w (((w.alloc (.cells #[.int .i64 txn] 3)).alloc (.cells #[.int .i64 vn,.bool vg,.slice qv vr.length cv] 38)).alloc (.cells #[.int .u64 sn] 39)) := a3.trans (b2.mono a3.size)
 have HX0:Hid (Box (((w.alloc (.cells #[.int .i64 txn] 3)).alloc (.cells #[.int .i64 vn,.bool vg,.slice qv vr.length cv] 38)).alloc (.cells #[.int .u64 sn] 39)) w.heap.size #[.int .i64 txn] 3 ∧ Box (((w.alloc (.cells #[.int .i64 txn] 3)).alloc (.cells #[.int .i64 vn,.bool vg,.slice qv vr.length cv] 38)).alloc (.cells #[.int .u64 sn] 39)) (w.heap.size + 1) #[.int .i64 vn,.bool vg,.slice qv vr.length cv] 38 ∧ Box (((w.alloc (.cells #[.int .i64 txn] 3)).alloc (.cells #[.int .i64 vn,.bool vg,.slice qv vr.length cv] 38)).alloc (.cells #[.int .u64 sn] 39)) (w.heap.size + 2) #[.int .u64 sn] 39 ∧ Below w.heap.size w (((w.alloc (.cells #[.int .i64 txn] 3)).alloc (.cells #[.int .i64 vn,.bool vg,.slice qv vr.length cv] 38)).alloc (.cells #[.int .u64 sn] 39))) := ⟨a1.on b2,a2.on b2,b1,hb0⟩
 have HS0:Hid (StX (((w.alloc (.cells #[.int .i64 txn] 3)).alloc (.cells #[.int .i64 vn,.bool vg,.slice qv vr.length cv] 38)).alloc (.cells #[.int .u64 sn] 39)) B sb most pb 0 dl dm pv tv C T sv wo M K) := hX.on hb0
 have HV0:Hid (∀ w',Imm w w' → SlV w' w'.heap.size (.slice qv vr.length cv) vr) := fun w' hi => hV.imm hi
 have HF:Hid (∀ k,F k ↔ stF sb dm pv tv C sv wo k) := hF
 have HW:Hid (InvW M wo) := hW
 have HI:Hid (InvT J most M T) := hI
 have HMu:Hid (∀ k,stF sb dm pv tv C sv wo k → MutB w k) := fun k hk => (hX.mut hk).1
 have HST:Hid (∀ k,stF sb dm pv tv C sv wo k → k < w.heap.size) := fun k hk => (hX.mut hk).2.2
 have HD:Hid (updN (updN dl (dk txn) 1) (dk txn) 0 = dl ∧ ∀ d,dl d = 0) := ⟨updN_zero hd0 _,hd0⟩
 have hlen:(wo txn).length ≤ 65536 := Nat.le_trans (hW.len txn) (Nat.le_trans hI.len hI.mst)
 have HCl:Hid (C.length = M.length) := hX.plc.len
 have hsbw:sb < w.heap.size := hX.blk.lt
 clear hX hI hW hF hd0 a1 a2 a3 a4 b1 b2 b3 hb0 hV
 have HvL:Hid (vr.length ≤ 3518437208882) := hvr
 go_enter_defers Tryz.func21,Tryz.ntmps21
 go_upto_region 1 with fail
 generalize (((w.alloc (.cells #[.int .i64 txn] 3)).alloc (.cells #[.int .i64 vn,.bool vg,.slice qv vr.length cv] 38)).alloc (.cells #[.int .u64 sn] 39)) = w0 at *
 have t0 := HX0.out.1.cell0.1
 have C1:Hid (Calls _ _ _ _ _) := desk_any sb txn w0 h1 h2
 have C2:Hid (Calls _ _ _ _ _) := lockD (dk txn) (dk_lt txn) _ HS0.out (HD.out.2 _)
 go_wp2_with fail
 refine C1.out.mono ?_
 rintro e w9 ⟨rfl,hw⟩
 rw [hw]
 clear hw w9 C1
 go_wp2_with fail
 refine C2.out.mono ?_
 rintro e w1 ⟨rfl,hs1,hf1⟩
 obtain ⟨a1,a2,a3,a4⟩ := two_new w1 #[.bool false] #[.int .i64 0] 4 24
 have hbx1 := HX0.out.1.frm hf1 (show ¬ w.heap.size = sb by omega)
 have hbx2 := HX0.out.2.1.frm hf1 (show ¬ w.heap.size + 1 = sb by omega)
 have hbx3 := HX0.out.2.2.1.frm hf1 (show ¬ w.heap.size + 2 = sb by omega)
 have hz1 := hbx3.lt
 have HFr2:Hid (Frm w ((w1.alloc (.cells #[.bool false] 4)).alloc (.cells #[.int .i64 0] 24)) (stF sb dm pv tv C sv wo)) := ((Frm.of_below (F := stF sb dm pv tv C sv wo) HX0.out.2.2.2).trans hf1 (fun k hk => .inl (.inl hk))).trans (Frm.of_below (F := stF sb dm pv tv C sv wo) a3) (fun k hk => .inl hk)
 have HX2:Hid (Box ((w1.alloc (.cells #[.bool false] 4)).alloc (.cells #[.int .i64 0] 24)) w.heap.size #[.int .i64 txn] 3 ∧ Box ((w1.alloc (.cells #[.bool false] 4)).alloc (.cells #[.int .i64 0] 24)) (w.heap.size + 1) #[.int .i64 vn,.bool vg,.slice qv vr.length cv] 38 ∧ Box ((w1.alloc (.cells #[.bool false] 4)).alloc (.cells #[.int .i64 0] 24)) (w.heap.size + 2) #[.int .u64 sn] 39 ∧ Box ((w1.alloc (.cells #[.bool false] 4)).alloc (.cells #[.int .i64 0] 24)) w1.heap.size #[.bool false] 4 ∧ Box ((w1.alloc (.cells #[.bool false] 4)).alloc (.cells #[.int .i64 0] 24)) (w1.heap.size + 1) #[.int .i64 0] 24) := ⟨hbx1.on a3,hbx2.on a3,hbx3.on a3,a1,a2⟩
 have HS2:Hid (StX ((w1.alloc (.cells #[.bool false] 4)).alloc (.cells #[.int .i64 0] 24)) B sb most pb 0 (updN dl (dk txn) 1) dm pv tv C T sv wo M K) := hs1.on a3
 clear hs1 hf1 C2 HS0 HX0 t0 a1 a2 a3 a4 hbx1 hbx2 hbx3
 go_upto_region 6 with fail
 generalize ((w1.alloc (.cells #[.bool false] 4)).alloc (.cells #[.int .i64 0] 24)) = w2 at *
 have HT:Hid (Calls _ _ _ _ _) := turnW (J := J) sl txn vn vg vr qv cv sn false 0 w.heap.size w1.heap.size (w.heap.size + 1) (w.heap.size + 2) (w1.heap.size + 1) w2 HS2.out HI.out (by omega) hJ (HV0.out w2 (Imm.of_frm HFr2.out (fun k hk => HMu.out k hk))) HvL.out h2 HX2.out.1 HX2.out.2.2.2.1 HX2.out.2.1 HX2.out.2.2.1 HX2.out.2.2.2.2 ⟨by omega,by omega,by omega,by omega⟩ (fun e => by have := HST.out _ e; omega) (fun e => by have := HST.out _ e; omega)
 have HM':Hid (∀ i:Nat,wriE (getR M sl) txn ⟨vn,vg,vr⟩ sn = 0 → sl = (i:Int) → ∃ hi:i < M.length,getR M sl = M[i] ∧ wrtM M sl txn ⟨vn,vg,vr⟩ sn = M.set i (wriR M[i] txn ⟨vn,vg,vr⟩)) := fun i he hi => by
  subst hi
  have hth := (wriE_ok he).1
  have him:i < M.length := by
   rcases Nat.lt_or_ge i M.length with h | h
   ·exact h
   ·rw [getR_out (M := M) (s := (i:Int)) (.inr (by omega))] at hth
    cases hth
  have hg:getR M (i:Int) = M[i] := getR_at (List.getElem?_eq_getElem him)
  refine ⟨him,hg,?_⟩
  unfold wrtM
  rw [if_pos he,hg]
  rfl
 have HSl:Hid (wriE (getR M sl) txn ⟨vn,vg,vr⟩ sn = 0 → 0 ≤ sl) := fun he => by
  have hth := (wriE_ok he).1
  by_cases h:sl < 0
  ·rw [getR_out (M := M) (s := sl) (.inl h)] at hth
   cases hth
  ·omega
 have HMn:Hid (wriE (getR M sl) txn ⟨vn,vg,vr⟩ sn ≠ 0 → wrtM M sl txn ⟨vn,vg,vr⟩ sn = M) := fun he => if_neg he
 have HOk:Hid (wriE (getR M sl) txn ⟨vn,vg,vr⟩ sn = 0 → ((getR M sl).tx = 0 ∨ (getR M sl).tx = txn) ∧ txn ≠ 0) := fun he => (wriE_ok he).2.2
 have HbN:Hid (((getR M sl).tx != txn) = true ↔ (getR M sl).tx ≠ txn) := by show _ ↔ _; simp
 go_wp2_with fail
 refine HT.out.mono ?_
 rintro e w3 ⟨⟨v',rfl⟩,⟨C3,T3,hS3,hI3,hC3⟩,⟨hq1,hq2⟩,hf3⟩
 generalize hMx:wrtM M sl txn ⟨vn,vg,vr⟩ sn = M3 at *
 generalize hEx:wriE (getR M sl) txn ⟨vn,vg,vr⟩ sn = ee at *
 generalize hFx:((getR M sl).tx != txn) = ff at *
 have HEM:Hid (wriE (getR M sl) txn ⟨vn,vg,vr⟩ sn = ee ∧ wrtM M sl txn ⟨vn,vg,vr⟩ sn = M3) := ⟨hEx,hMx⟩
 clear hEx hMx hFx
 have f3 := hq1.cell0.1
 have e3 := hq2.cell0.1
 have HQ2:Hid (Box w3 (w1.heap.size + 1) #[.int .i64 ee] 24) := hq2
 have t3 := (HX2.out.1.frm hf3 (show ¬ (two1 w1.heap.size (w1.heap.size + 1) w.heap.size ∨ stF sb dm pv tv C sv wo w.heap.size) from fun e => e.elim (fun e => e.elim (fun e => by omega) (fun e => by omega)) (fun e => by have := HST.out _ e; omega))).cell0.1
 have HS3:Hid (StX w3 B sb most pb 0 (updN dl (dk txn) 1) dm pv tv C3 T3 sv wo M3 (K + 1)) := hS3
 have HI3:Hid (InvT (J + 1) most M3 T3) := hI3
 have HC3:Hid (C3.map Prod.fst = C.map Prod.fst) := hC3
 have HF3:Hid (Frm w w3 (stF sb dm pv tv C sv wo)) := HFr2.out.trans hf3 (fun k hk => hk.elim (fun e => .inr (e.elim (fun e => by omega) (fun e => by omega))) .inl)
 clear hS3 hI3 hC3 hq1 hq2 hf3 HT HS2 HFr2 HX2
 by_cases he:ee = 0
 ·have heq:(ee == 0) = true := by simp [he]
  cases ff with
  | true =>
   obtain ⟨i,hi⟩:∃ i:Nat,sl = (i:Int) := ⟨sl.toNat,by have := HSl.out he; omega⟩
   obtain ⟨him,hg,hM3⟩ := HM'.out i he hi
   have htx:M[i].tx ≠ txn := by rw [← hg]; exact HbN.out.1 rfl
   obtain ⟨ho,h0⟩ := HOk.out he
   rw [hg] at ho
   have hz:M[i].tx = 0 := ho.elim id (fun e => absurd e htx)
   have HIW:Hid (InvW M3 (updI wo txn (wo txn ++ [i]))) := by
    show InvW _ _
    rw [hM3]
    exact HW.out.add him htx hz rfl h0
   have CN:Hid (Calls _ _ _ _ _) := note_all txn i w3 HS3.out h1 h2 (by omega) hlen
   clear hg hM3 htx ho h0 hz him he HM' HSl HOk HbN
   subst hi
   go_wp2_with fail
   refine CN.out.mono ?_
   rintro e w4 ⟨rfl,⟨dm',sv',hs4,hst4⟩,hf4⟩
   have e4 := (HQ2.out.frm hf4 (fun e => by have := HST.out _ (stF_fst HC3.out e); omega)).cell0.1
   have HS4:Hid (StX w4 B sb most pb 0 (updN dl (dk txn) 1) dm' pv tv C3 T3 sv' (updI wo txn (wo txn ++ [i])) M3 (K + 1 + 1)) := hs4
   have HF4:Hid (Frm w w4 (stF sb dm pv tv C sv wo)) := HF3.out.trans hf4 (fun k hk => .inl (stF_fst HC3.out hk))
   have HSb:Hid (∀ k,stF sb dm' pv tv C3 sv' (updI wo txn (wo txn ++ [i])) k → F k ∨ w.heap.size ≤ k) := fun k hk => (hst4 k hk).elim (fun e => .inl ((HF.out k).2 (stF_fst HC3.out e))) (fun e => .inr (Nat.le_trans HF3.out.size e))
   clear hs4 hst4 hf4 CN
   go_wp2_with fail
   refine leaves_cons (f := 48) (args := #[.pointer (some ⟨sb,5 + dk txn * 3,none⟩)]) (by simp) (by simp [go_sem]) ?_
   refine (unlockD (dk txn) (dk_lt txn) .returning w4 HS4.out (if_pos rfl)).mono ?_
   rintro e u' w7 ⟨rfl,rfl,hs7,hf7⟩
   refine ⟨_,results_tmp (t := 10) rfl _ _ _,?_⟩
   rw [HD.out.1] at hs7
   rw [HEM.out.1,HEM.out.2]
   refine ⟨rfl,⟨stF sb dm' pv tv C3 sv' (updI wo txn (wo txn ++ [i])),⟨pb,dl,dm',pv,tv,C3,T3,sv',(updI wo txn (wo txn ++ [i])),hs7.mono (by omega),HD.out.2,HI3.out,HIW.out,fun k => Iff.rfl⟩,HSb.out⟩,(HF4.out.trans hf7 (fun k hk => .inl (.inl hk))).mono (fun k hk => .inl ((HF.out k).2 hk))⟩
  | false =>
   have HIW:Hid (InvW M3 wo) := by
    show InvW _ _
    have hb:¬ (getR M sl).tx ≠ txn := fun e => by have := HbN.out.2 e; cases this
    obtain ⟨i,hi⟩:∃ i:Nat,sl = (i:Int) := ⟨sl.toNat,by have := HSl.out he; omega⟩
    obtain ⟨him,hg,hM3⟩ := HM'.out i he hi
    rw [hM3]
    refine HW.out.same him ?_
    rw [← hg]
    exact (Classical.not_not.1 hb).symm
   clear he HM' HSl HOk HbN
   go_wp2_with fail
   refine leaves_cons (f := 48) (args := #[.pointer (some ⟨sb,5 + dk txn * 3,none⟩)]) (by simp) (by simp [go_sem]) ?_
   refine (unlockD (dk txn) (dk_lt txn) .returning w3 HS3.out (if_pos rfl)).mono ?_
   rintro e u' w7 ⟨rfl,rfl,hs7,hf7⟩
   refine ⟨_,results_tmp (t := 10) rfl _ _ _,?_⟩
   rw [HD.out.1] at hs7
   rw [HEM.out.1,HEM.out.2]
   refine ⟨rfl,⟨stF sb dm pv tv C3 sv wo,⟨pb,dl,dm,pv,tv,C3,T3,sv,wo,hs7.mono (by omega),HD.out.2,HI3.out,HIW.out,fun k => Iff.rfl⟩,fun k hk => .inl ((HF.out k).2 (stF_fst HC3.out hk))⟩,(HF3.out.trans hf7 (fun k hk => .inl (.inl hk))).mono (fun k hk => .inl ((HF.out k).2 hk))⟩
 ·have heq:(ee == 0) = false := by simp [he]
  have HIW:Hid (InvW M3 wo) := by
   show InvW _ _
   rw [HMn.out he]
   exact HW.out
  clear he HM' HSl HOk HbN HMn
  cases ff with
  | true =>
   go_wp2_with fail
   refine leaves_cons (f := 48) (args := #[.pointer (some ⟨sb,5 + dk txn * 3,none⟩)]) (by simp) (by simp [go_sem]) ?_
   refine (unlockD (dk txn) (dk_lt txn) .returning w3 HS3.out (if_pos rfl)).mono ?_
   rintro e u' w7 ⟨rfl,rfl,hs7,hf7⟩
   refine ⟨_,results_tmp (t := 10) rfl _ _ _,?_⟩
   rw [HD.out.1] at hs7
   rw [HEM.out.1,HEM.out.2]
   refine ⟨rfl,⟨stF sb dm pv tv C3 sv wo,⟨pb,dl,dm,pv,tv,C3,T3,sv,wo,hs7.mono (by omega),HD.out.2,HI3.out,HIW.out,fun k => Iff.rfl⟩,fun k hk => .inl ((HF.out k).2 (stF_fst HC3.out hk))⟩,(HF3.out.trans hf7 (fun k hk => .inl (.inl hk))).mono (fun k hk => .inl ((HF.out k).2 hk))⟩
  | false =>
   go_wp2_with fail
   refine leaves_cons (f := 48) (args := #[.pointer (some ⟨sb,5 + dk txn * 3,none⟩)]) (by simp) (by simp [go_sem]) ?_
   refine (unlockD (dk txn) (dk_lt txn) .returning w3 HS3.out (if_pos rfl)).mono ?_
   rintro e u' w7 ⟨rfl,rfl,hs7,hf7⟩
   refine ⟨_,results_tmp (t := 10) rfl _ _ _,?_⟩
   rw [HD.out.1] at hs7
   rw [HEM.out.1,HEM.out.2]
   refine ⟨rfl,⟨stF sb dm pv tv C3 sv wo,⟨pb,dl,dm,pv,tv,C3,T3,sv,wo,hs7.mono (by omega),HD.out.2,HI3.out,HIW.out,fun k => Iff.rfl⟩,fun k hk => .inl ((HF.out k).2 (stF_fst HC3.out hk))⟩,(HF3.out.trans hf7 (fun k hk => .inl (.inl hk))).mono (fun k hk => .inl ((HF.out k).2 hk))⟩

end Go.Proofs.YtcibcfghkidncaaGreatDoor

namespace Go.Proofs.YtcibcfghkidncaaGreatDoor
open Go.RowKit
set_option maxRecDepth 100000

set_option maxHeartbeats 8000000 in
theorem rput_any (W:List Rw) (p:Option Addr) (c:Nat) (tx n:Int) (g:Bool) (row:List Vl) (q:Option Addr) (d:Nat) (w:World) (hR:RdR .i64 w w.heap.size p W) (hV:SlV w w.heap.size (.slice q row.length d) row) (hlen:W.length ≤ 3518437208882) :
  Calls Tryz.prog 61 #[.agg #[.int .i64 tx,.slice p W.length c],.agg #[.int .i64 n,.bool g,.slice q row.length d]] w fun e w' => (∃ v Z,e = .returned (.tuple #[.agg #[.int .i64 (putT tx W ⟨n,g,row⟩),v],.int .i64 (putE tx W ⟨n,g,row⟩)]) ∧ Z.map Prod.fst = putL tx W ⟨n,g,row⟩ ∧ HasRb w' w.heap.size w.heap.size v Z) ∧ Below w.heap.size w w' := by
 have HR:Hid (RdR .i64 w w.heap.size p W) := hR
 have HV:Hid (SlV w w.heap.size (.slice q row.length d) row) := hV
 have HPB:Hid (putB tx W ⟨n,g,row⟩ = (decide (n < 0) || abvL W n || (g && decide (0 < row.length)) || decide (tx < 1))) := rfl
 have HBad:Hid (putB tx W ⟨n,g,row⟩ = true → putE tx W ⟨n,g,row⟩ = 1 ∧ putT tx W ⟨n,g,row⟩ = 0 ∧ putL tx W ⟨n,g,row⟩ = []) := put_bad
 have HOk:Hid (putB tx W ⟨n,g,row⟩ = false → putE tx W ⟨n,g,row⟩ = 0 ∧ putT tx W ⟨n,g,row⟩ = tx ∧ putL tx W ⟨n,g,row⟩ = belL W n ++ [⟨n,g,row⟩]) := put_ok
 have HN:Hid ((∀ i (hi:i < W.length),W[i].n ≤ n) → abvL W n = false) := abv_false
 have HP:Hid (∀ j (hj:j < W.length),n < W[j].n → abvL W n = true) := fun j hj h1 => abv_true hj h1
 have HC0:Hid (∀ v,rcell .i64 (⟨n,g,row⟩,v) = [.int .i64 n,.bool g,v]) := fun v => rfl
 clear hR hV
 generalize row.length = rl at *
 generalize abvL W n = ab at *
 generalize putB tx W ⟨n,g,row⟩ = pb at *
 generalize putE tx W ⟨n,g,row⟩ = pe at *
 generalize putT tx W ⟨n,g,row⟩ = pt at *
 generalize putL tx W ⟨n,g,row⟩ = pl at *
 have hx1 := ((Box.new w #[.int .i64 tx,.slice p W.length c] 75).on ((Below.refl _ _).alloc (Nat.le_refl _) (.cells #[.int .i64 n,.bool g,.slice q rl d] 38))).on ((Below.refl _ _).alloc (Nat.le_refl _) (.cells #[.int .i64 0,.slice none 0 0] 75))
 have hx2 := (Box.new (w.alloc (.cells #[.int .i64 tx,.slice p W.length c] 75)) #[.int .i64 n,.bool g,.slice q rl d] 38).on ((Below.refl _ _).alloc (Nat.le_refl _) (.cells #[.int .i64 0,.slice none 0 0] 75))
 have hx3 := Box.new ((w.alloc (.cells #[.int .i64 tx,.slice p W.length c] 75)).alloc (.cells #[.int .i64 n,.bool g,.slice q rl d] 38)) #[.int .i64 0,.slice none 0 0] 75
 have hx4 := Box.new (((w.alloc (.cells #[.int .i64 tx,.slice p W.length c] 75)).alloc (.cells #[.int .i64 n,.bool g,.slice q rl d] 38)).alloc (.cells #[.int .i64 0,.slice none 0 0] 75)) #[.int .i64 tx,.slice none 0 0] 75
 have hs1:(w.alloc (.cells #[.int .i64 tx,.slice p W.length c] 75)).heap.size = w.heap.size + 1 := by simp [go_sem]
 have hs2:((w.alloc (.cells #[.int .i64 tx,.slice p W.length c] 75)).alloc (.cells #[.int .i64 n,.bool g,.slice q rl d] 38)).heap.size = w.heap.size + 1 + 1 := by simp [go_sem]
 have hs3:(((w.alloc (.cells #[.int .i64 tx,.slice p W.length c] 75)).alloc (.cells #[.int .i64 n,.bool g,.slice q rl d] 38)).alloc (.cells #[.int .i64 0,.slice none 0 0] 75)).heap.size = w.heap.size + 1 + 1 + 1 := by simp [go_sem]
 have hs4:((((w.alloc (.cells #[.int .i64 tx,.slice p W.length c] 75)).alloc (.cells #[.int .i64 n,.bool g,.slice q rl d] 38)).alloc (.cells #[.int .i64 0,.slice none 0 0] 75)).alloc (.cells #[.int .i64 tx,.slice none 0 0] 75)).heap.size = w.heap.size + 4 := by simp [go_sem]
 rw [hs1] at hx2
 rw [hs2] at hx3
 rw [hs3] at hx4
 have hal:Below (((w.alloc (.cells #[.int .i64 tx,.slice p W.length c] 75)).alloc (.cells #[.int .i64 n,.bool g,.slice q rl d] 38)).alloc (.cells #[.int .i64 0,.slice none 0 0] 75)).heap.size (((w.alloc (.cells #[.int .i64 tx,.slice p W.length c] 75)).alloc (.cells #[.int .i64 n,.bool g,.slice q rl d] 38)).alloc (.cells #[.int .i64 0,.slice none 0 0] 75)) ((((w.alloc (.cells #[.int .i64 tx,.slice p W.length c] 75)).alloc (.cells #[.int .i64 n,.bool g,.slice q rl d] 38)).alloc (.cells #[.int .i64 0,.slice none 0 0] 75)).alloc (.cells #[.int .i64 tx,.slice none 0 0] 75)) := (Below.refl _ _).alloc (Nat.le_refl _) _
 have HB3:Hid (Below w.heap.size w (((w.alloc (.cells #[.int .i64 tx,.slice p W.length c] 75)).alloc (.cells #[.int .i64 n,.bool g,.slice q rl d] 38)).alloc (.cells #[.int .i64 0,.slice none 0 0] 75))) := by
  show Below _ _ _
  go_grown
 have HX3:Hid (Box (((w.alloc (.cells #[.int .i64 tx,.slice p W.length c] 75)).alloc (.cells #[.int .i64 n,.bool g,.slice q rl d] 38)).alloc (.cells #[.int .i64 0,.slice none 0 0] 75)) w.heap.size #[.int .i64 tx,.slice p W.length c] 75 ∧ Box (((w.alloc (.cells #[.int .i64 tx,.slice p W.length c] 75)).alloc (.cells #[.int .i64 n,.bool g,.slice q rl d] 38)).alloc (.cells #[.int .i64 0,.slice none 0 0] 75)) (w.heap.size + 1) #[.int .i64 n,.bool g,.slice q rl d] 38 ∧ Box (((w.alloc (.cells #[.int .i64 tx,.slice p W.length c] 75)).alloc (.cells #[.int .i64 n,.bool g,.slice q rl d] 38)).alloc (.cells #[.int .i64 0,.slice none 0 0] 75)) (w.heap.size + 1 + 1) #[.int .i64 0,.slice none 0 0] 75) := ⟨hx1,hx2,hx3⟩
 have HB0:Hid (Below w.heap.size w ((((w.alloc (.cells #[.int .i64 tx,.slice p W.length c] 75)).alloc (.cells #[.int .i64 n,.bool g,.slice q rl d] 38)).alloc (.cells #[.int .i64 0,.slice none 0 0] 75)).alloc (.cells #[.int .i64 tx,.slice none 0 0] 75)) ∧ w.heap.size + 4 ≤ ((((w.alloc (.cells #[.int .i64 tx,.slice p W.length c] 75)).alloc (.cells #[.int .i64 n,.bool g,.slice q rl d] 38)).alloc (.cells #[.int .i64 0,.slice none 0 0] 75)).alloc (.cells #[.int .i64 tx,.slice none 0 0] 75)).heap.size) := ⟨by go_grown,by rw [hs4]; exact Nat.le_refl _⟩
 have HX0:Hid (Box ((((w.alloc (.cells #[.int .i64 tx,.slice p W.length c] 75)).alloc (.cells #[.int .i64 n,.bool g,.slice q rl d] 38)).alloc (.cells #[.int .i64 0,.slice none 0 0] 75)).alloc (.cells #[.int .i64 tx,.slice none 0 0] 75)) w.heap.size #[.int .i64 tx,.slice p W.length c] 75 ∧ Box ((((w.alloc (.cells #[.int .i64 tx,.slice p W.length c] 75)).alloc (.cells #[.int .i64 n,.bool g,.slice q rl d] 38)).alloc (.cells #[.int .i64 0,.slice none 0 0] 75)).alloc (.cells #[.int .i64 tx,.slice none 0 0] 75)) (w.heap.size + 1) #[.int .i64 n,.bool g,.slice q rl d] 38 ∧ Box ((((w.alloc (.cells #[.int .i64 tx,.slice p W.length c] 75)).alloc (.cells #[.int .i64 n,.bool g,.slice q rl d] 38)).alloc (.cells #[.int .i64 0,.slice none 0 0] 75)).alloc (.cells #[.int .i64 tx,.slice none 0 0] 75)) (w.heap.size + 1 + 1) #[.int .i64 0,.slice none 0 0] 75 ∧ Box ((((w.alloc (.cells #[.int .i64 tx,.slice p W.length c] 75)).alloc (.cells #[.int .i64 n,.bool g,.slice q rl d] 38)).alloc (.cells #[.int .i64 0,.slice none 0 0] 75)).alloc (.cells #[.int .i64 tx,.slice none 0 0] 75)) (w.heap.size + 1 + 1 + 1) #[.int .i64 tx,.slice none 0 0] 75) := ⟨hx1.on hal,hx2.on hal,hx3.on hal,hx4⟩
 clear hx1 hx2 hx3 hx4 hs1 hs2 hs3 hs4 hal
 cases h1:decide (n < 0) with
 | true =>
  have HE:Hid (pt = 0 ∧ pe = 1 ∧ pl = []) := by
   obtain ⟨e1,e2,e3⟩ := HBad.out (HPB.out.trans (by rw [h1]; simp))
   exact ⟨e2,e1,e3⟩
  clear HPB HBad HOk HP HN
  go_enter Tryz.func61,Tryz.ntmps61
  go_wp2_with fail
  obtain ⟨k0,k1,_⟩ := box2 HX3.out.2.2
  (try simp only [Exit.inBlock,Exit.then])
  refine bodyPost_ret (v := .tuple #[.agg #[.int .i64 0,.slice none 0 0],.int .i64 1]) (by simp [results,Tryz.results61,go_sem,k0,k1]) rfl ?_
  exact ⟨⟨_,[],by rw [HE.out.1,HE.out.2.1],by rw [HE.out.2.2]; rfl,HasRb.nil _ _ _⟩,HB3.out⟩
 | false =>
  cases h3:(g && decide (0 < rl)) with
  | true =>
   have HPB2:Hid (pb = true) := HPB.out.trans (by rw [h1,h3]; simp)
   obtain ⟨rfl,h5⟩:g = true ∧ 0 < rl := by simpa using h3
   clear h3
   have HE:Hid (pt = 0 ∧ pe = 1 ∧ pl = []) := by
    obtain ⟨e1,e2,e3⟩ := HBad.out HPB2.out
    exact ⟨e2,e1,e3⟩
   clear HPB HBad HOk HP HN
   go_enter Tryz.func61,Tryz.ntmps61
   go_wp2_with fail
   obtain ⟨k0,k1,_⟩ := box2 HX3.out.2.2
   (try simp only [Exit.inBlock,Exit.then])
   refine bodyPost_ret (v := .tuple #[.agg #[.int .i64 0,.slice none 0 0],.int .i64 1]) (by simp [results,Tryz.results61,go_sem,k0,k1]) rfl ?_
   exact ⟨⟨_,[],by rw [HE.out.1,HE.out.2.1],by rw [HE.out.2.2]; rfl,HasRb.nil _ _ _⟩,HB3.out⟩
  | false =>
   cases h4:decide (tx < 1) with
   | true =>
    have HPB2:Hid (pb = true) := HPB.out.trans (by rw [h1,h3,h4]; simp)
    cases g with
    | false =>
     clear h3
     have HE:Hid (pt = 0 ∧ pe = 1 ∧ pl = []) := by
      obtain ⟨e1,e2,e3⟩ := HBad.out HPB2.out
      exact ⟨e2,e1,e3⟩
     clear HPB HBad HOk HP HN
     go_enter Tryz.func61,Tryz.ntmps61
     go_wp2_with fail
     obtain ⟨k0,k1,_⟩ := box2 HX3.out.2.2
     (try simp only [Exit.inBlock,Exit.then])
     refine bodyPost_ret (v := .tuple #[.agg #[.int .i64 0,.slice none 0 0],.int .i64 1]) (by simp [results,Tryz.results61,go_sem,k0,k1]) rfl ?_
     exact ⟨⟨_,[],by rw [HE.out.1,HE.out.2.1],by rw [HE.out.2.2]; rfl,HasRb.nil _ _ _⟩,HB3.out⟩
    | true =>
     have h5:rl = 0 := by simpa using h3
     subst h5
     clear h3
     have HE:Hid (pt = 0 ∧ pe = 1 ∧ pl = []) := by
      obtain ⟨e1,e2,e3⟩ := HBad.out HPB2.out
      exact ⟨e2,e1,e3⟩
     clear HPB HBad HOk HP HN
     go_enter Tryz.func61,Tryz.ntmps61
     go_wp2_with fail
     obtain ⟨k0,k1,_⟩ := box2 HX3.out.2.2
     (try simp only [Exit.inBlock,Exit.then])
     refine bodyPost_ret (v := .tuple #[.agg #[.int .i64 0,.slice none 0 0],.int .i64 1]) (by simp [results,Tryz.results61,go_sem,k0,k1]) rfl ?_
     exact ⟨⟨_,[],by rw [HE.out.1,HE.out.2.1],by rw [HE.out.2.2]; rfl,HasRb.nil _ _ _⟩,HB3.out⟩
   | false =>
    have HPB2:Hid (pb = ab) := HPB.out.trans (by rw [h1,h3,h4]; simp)
    clear HPB HX3 HB3
    have hgs:g = false ∨ (g = true ∧ rl = 0) := by
     cases g with
     | false => exact Or.inl rfl
     | true => exact Or.inr ⟨rfl,by simpa using h3⟩
    clear h3
    rcases hgs with rfl | ⟨rfl,rfl⟩
    ·go_enter Tryz.func61,Tryz.ntmps61
     go_wp2_with fail
     generalize ((((w.alloc (.cells #[.int .i64 tx,.slice p W.length c] 75)).alloc (.cells #[.int .i64 n,.bool false,.slice q rl d] 38)).alloc (.cells #[.int .i64 0,.slice none 0 0] 75)).alloc (.cells #[.int .i64 tx,.slice none 0 0] 75)) = w3 at *
     go_loopw [7] (fun i wr => ∃ (j:Nat) (Z:List (Rw × Value)) (v:Value),j ≤ W.length ∧ i = .int .i64 (j:Int) ∧ Hid (Z.map Prod.fst = belL (W.take j) n ∧ ∀ i (hi:i < W.length),i < j → W[i].n ≤ n) ∧ Hid (HasRb wr (w.heap.size + 4) w.heap.size v Z) ∧ Hid (Box wr w.heap.size #[.int .i64 tx,.slice p W.length c] 75 ∧ Box wr (w.heap.size + 1) #[.int .i64 n,.bool false,.slice q rl d] 38 ∧ Box wr (w.heap.size + 1 + 1) #[.int .i64 0,.slice none 0 0] 75 ∧ Box wr (w.heap.size + 1 + 1 + 1) #[.int .i64 tx,v] 75) ∧ Hid (w.heap.size + 4 ≤ wr.heap.size) ∧ Below w.heap.size w wr) (fun i _ => W.length - (intOf i).toNat)
     case atStart => exact ⟨0,[],_,Nat.zero_le _,by go_num,⟨rfl,fun i hi h => absurd h (by omega)⟩,HasRb.nil _ _ _,HX0,HB0.out.2,HB0.out.1⟩
     case round =>
      obtain ⟨j,Z,v,hj,rfl,hZ,hO,HX,HSz,hn⟩ := hrel
      clear HX0 HB0
      have hZl:Z.length ≤ j := by
       have := congrArg List.length hZ.out.1
       rw [List.length_map] at this
       rw [this]
       exact bel_len _ _ _
      obtain ⟨pv,cv,rfl,_⟩ := owns_len hO.out.1
      obtain ⟨x0,x1,x2,x3⟩ := box2 HX.out.1
      obtain ⟨⟨u0,u1,u2⟩,_⟩ := box3 HX.out.2.1
      obtain ⟨r0,r1,r2,r3⟩ := box2 HX.out.2.2.1
      obtain ⟨y0,y1,y2,y3⟩ := box2 HX.out.2.2.2
      by_cases hj0:j = W.length
      ·subst hj0
       have HE:Hid (pt = tx ∧ pe = 0 ∧ pl = belL W n ++ [⟨n,false,row⟩]) := by
        obtain ⟨e1,e2,e3⟩ := HOk.out (HPB2.out.trans (HN.out fun i hi => hZ.out.2 i hi hi))
        exact ⟨e2,e1,e3⟩
       have HZ2:Hid (Z.map Prod.fst = belL W n) := hZ.out.1.trans (bel_all W n)
       have hszr := HSz.out
       have HVr:Hid (SlV wr w.heap.size (.slice q rl d) row) := HV.out.keep hn
       clear HOk HBad HN HP hZ
       go_wp2_with (first | (at_builtin; go_loud (refine wpList_app1 wr rfl (.tmp 67) (.tmp 69) 38 73 _ 3 40 rfl Tryz.underlying73 info_wri rfl (by decide) (w.heap.size + 4) _ _ _ (by rfl) hO.out.1 [.int .i64 n,.bool false,.slice q rl d] rfl (by simp [Value.oneCell']) _ rfl (by simp) (by omega) (by omega) hszr ?_); intro v6 w6 h6 h7 h8; have hX6 := HX.out.2.2.2.keep h7 (show w.heap.size + 1 + 1 + 1 < w.heap.size + 4 by omega); have hR6 := HX.out.2.2.1.keep h7 (show w.heap.size + 1 + 1 < w.heap.size + 4 by omega); obtain ⟨k0,k1,k2,k3⟩ := box2 hX6; obtain ⟨m0,m1,m2,m3⟩ := box2 hR6; obtain ⟨p6,c6,e6,_⟩ := owns_len h6; subst e6))
       have H6:HasRb w6 (w.heap.size + 4) w.heap.size (.slice p6 (Z.length + 1) c6) (Z ++ [(⟨n,false,row⟩,.slice q rl d)]) := hO.out.app (z := (⟨n,false,row⟩,.slice q rl d)) HVr.out (by rw [HC0.out]; exact h6) (h7.mono (by omega))
       have hB6:Below w.heap.size w w6 := hn.trans (h7.mono (by omega))
       have hZm:(Z ++ [((⟨n,false,row⟩:Rw),Value.slice q rl d)]).map Prod.fst = belL W n ++ [⟨n,false,row⟩] := by
        rw [List.map_append,HZ2.out]
        rfl
       have hN := ((H6.off (i := 1) (j := (w.heap.size + 1 + 1 + 1)) (.slice p6 (Z.length + 1) c6) (by omega) (by omega)).off (i := 0) (j := w.heap.size + 1 + 1) (.int .i64 tx) (by omega) (by omega)).off (i := 1) (j := w.heap.size + 1 + 1) (.slice p6 (Z.length + 1) c6) (by omega) (by omega)
       have hB := ((hB6.setCell (p := ⟨(w.heap.size + 1 + 1 + 1),1,none⟩) (show w.heap.size ≤ (w.heap.size + 1 + 1 + 1) by omega) (.slice p6 (Z.length + 1) c6)).setCell (p := ⟨w.heap.size + 1 + 1,0,none⟩) (show w.heap.size ≤ w.heap.size + 1 + 1 by omega) (.int .i64 tx)).setCell (p := ⟨w.heap.size + 1 + 1,1,none⟩) (show w.heap.size ≤ w.heap.size + 1 + 1 by omega) (.slice p6 (Z.length + 1) c6)
       have hZZ := ((hR6.off (i := 1) (j := (w.heap.size + 1 + 1 + 1)) (.slice p6 (Z.length + 1) c6) (by omega)).set (i := 0) (.int .i64 tx)).set (i := 1) (.slice p6 (Z.length + 1) c6)
       clear h6 h7 h8 k0 k1 k2 k3 m0 m1 m2 m3 hX6 hR6 H6 hB6
       generalize ((w6.setCell ⟨(w.heap.size + 1 + 1 + 1),1,none⟩ (.slice p6 (Z.length + 1) c6)).setCell ⟨w.heap.size + 1 + 1,0,none⟩ (.int .i64 tx)).setCell ⟨w.heap.size + 1 + 1,1,none⟩ (.slice p6 (Z.length + 1) c6) = w9 at *
       obtain ⟨k0,k1,_⟩ := box2 hZZ
       (try simp only [Exit.inBlock,Exit.then])
       refine bodyPost_ret (v := .tuple #[.agg #[.int .i64 tx,.slice p6 (Z.length + 1) c6],.int .i64 0]) (by simp [results,Tryz.results61,go_sem,k0,k1]) rfl ?_
       exact ⟨⟨_,Z ++ [((⟨n,false,row⟩:Rw),Value.slice q rl d)],by rw [HE.out.1,HE.out.2.1],by rw [HE.out.2.2,hZm],⟨owns_base hN.1 (by omega),hN.2⟩⟩,hB⟩
      ·have hj1:j < W.length := by omega
       obtain ⟨b,o,q1,d1,rfl,hbB,c0,c1,c2,hr,hq⟩ := HR.out j hj1
       have a0 := (hn.cell (p := ⟨b,o + j * 3,none⟩) hbB).trans c0
       have a1 := (hn.cell (p := ⟨b,o + j * 3 + 1,none⟩) hbB).trans c1
       have a2 := (hn.cell (p := ⟨b,o + j * 3 + 2,none⟩) hbB).trans c2
       have HSl:Hid (SlV w w.heap.size (.slice q1 W[j].row.length d1) W[j].row) := ⟨q1,d1,rfl,hr,hq⟩
       have HC:Hid (∀ v,rcell .i64 (W[j],v) = [.int .i64 W[j].n,.bool W[j].gn,v]) := fun v => rfl
       have HY:Hid (W[j].n < n → ∀ v,(Z ++ [(W[j],v)]).map Prod.fst = belL (W.take (j + 1)) n) := fun h v => bel_yes hj1 h v hZ.out.1
       have HNo:Hid (¬ W[j].n < n → Z.map Prod.fst = belL (W.take (j + 1)) n) := fun h => bel_no hj1 h hZ.out.1
       have HUp:Hid (n < W[j].n → ab = true) := fun h => HP.out j hj1 h
       have HLe:Hid (W[j].n ≤ n → ∀ i (hi:i < W.length),i < j + 1 → W[i].n ≤ n) := fun h i hi hi2 => by
        rcases Nat.lt_succ_iff_lt_or_eq.1 hi2 with h3 | rfl
        ·exact hZ.out.2 i hi h3
        ·exact h
       clear c0 c1 c2 hj0 hr hq hZ
       generalize W[j].n = xn at *
       generalize W[j].gn = xg at *
       generalize W[j].row.length = xl at *
       by_cases hup:n < xn
       ·have HE:Hid (pt = 0 ∧ pe = 1 ∧ pl = []) := by
         obtain ⟨e1,e2,e3⟩ := HBad.out (HPB2.out.trans (HUp.out hup))
         exact ⟨e2,e1,e3⟩
        clear HY HNo HLe HUp
        go_wp2_with fail
        go_quiet (fail)
        go_wp2_with fail
        have hXd:Box (wr.drewN nq) (w.heap.size + 1 + 1) #[.int .i64 0,.slice none 0 0] 75 := HX.out.2.2.1.on (below_drewN (Below.refl _ _) _)
        have hBd:Below w.heap.size w (wr.drewN nq) := below_drewN hn _
        have hZZ := (hXd.set (i := 0) (.int .i64 0)).set (i := 1) (.slice none 0 0)
        have hB := (hBd.setCell (p := ⟨w.heap.size + 1 + 1,0,none⟩) (show w.heap.size ≤ w.heap.size + 1 + 1 by omega) (.int .i64 0)).setCell (p := ⟨w.heap.size + 1 + 1,1,none⟩) (show w.heap.size ≤ w.heap.size + 1 + 1 by omega) (.slice none 0 0)
        generalize ((wr.drewN nq).setCell ⟨w.heap.size + 1 + 1,0,none⟩ (.int .i64 0)).setCell ⟨w.heap.size + 1 + 1,1,none⟩ (.slice none 0 0) = w9 at *
        obtain ⟨k0,k1,_⟩ := box2 hZZ
        (try simp only [Exit.inBlock,Exit.then])
        refine bodyPost_ret (v := .tuple #[.agg #[.int .i64 0,.slice none 0 0],.int .i64 1]) (by simp [results,Tryz.results61,go_sem,k0,k1]) rfl ?_
        exact ⟨⟨_,[],by rw [HE.out.1,HE.out.2.1],by rw [HE.out.2.2]; rfl,HasRb.nil _ _ _⟩,hB⟩
       ·have HLe2:Hid (∀ i (hi:i < W.length),i < j + 1 → W[i].n ≤ n) := HLe.out (by omega)
        have hup':xn ≤ n := by omega
        clear hup HUp HLe
        by_cases hx:xn < n
        ·have HY2:Hid (∀ v,(Z ++ [(W[j],v)]).map Prod.fst = belL (W.take (j + 1)) n) := HY.out hx
         clear HY HNo
         go_wp2_with fail
         go_quiet (fail)
         have hdr:Below wr.heap.size wr (wr.drewN nq) := below_drewN (Below.refl _ _) _
         have HX1:Hid (Box (wr.drewN nq) w.heap.size #[.int .i64 tx,.slice (some ⟨b,o,none⟩) W.length c] 75 ∧ Box (wr.drewN nq) (w.heap.size + 1) #[.int .i64 n,.bool false,.slice q rl d] 38 ∧ Box (wr.drewN nq) (w.heap.size + 1 + 1) #[.int .i64 0,.slice none 0 0] 75 ∧ Box (wr.drewN nq) (w.heap.size + 1 + 1 + 1) #[.int .i64 tx,(.slice pv Z.length cv)] 75) := ⟨HX.out.1.on hdr,HX.out.2.1.on hdr,HX.out.2.2.1.on hdr,HX.out.2.2.2.on hdr⟩
         have hO1:Hid (HasRb (wr.drewN nq) (w.heap.size + 4) w.heap.size (.slice pv Z.length cv) Z) := hO.out.kept hdr hn.size
         have HSz1:Hid (w.heap.size + 4 ≤ (wr.drewN nq).heap.size) := Nat.le_trans HSz.out hdr.size
         have hn1:Below w.heap.size w (wr.drewN nq) := below_drewN hn _
         have a0 := (hdr.cell (p := ⟨b,o + j * 3,none⟩) (Nat.lt_of_lt_of_le hbB hn.size)).trans a0
         have a1 := (hdr.cell (p := ⟨b,o + j * 3 + 1,none⟩) (Nat.lt_of_lt_of_le hbB hn.size)).trans a1
         have a2 := (hdr.cell (p := ⟨b,o + j * 3 + 2,none⟩) (Nat.lt_of_lt_of_le hbB hn.size)).trans a2
         clear x0 x1 x2 x3 u0 u1 u2 r0 r1 r2 r3 y0 y1 y2 y3 hO HX HSz hn hdr
         generalize wr.drewN nq = wr2 at *
         obtain ⟨x0,x1,x2,x3⟩ := box2 HX1.out.1
         obtain ⟨⟨u0,u1,u2⟩,_⟩ := box3 HX1.out.2.1
         go_wp2_with fail
         go_quiet (fail)
         have hdr:Below wr2.heap.size wr2 (wr2.drewN nq) := below_drewN (Below.refl _ _) _
         have HX2:Hid (Box (wr2.drewN nq) w.heap.size #[.int .i64 tx,.slice (some ⟨b,o,none⟩) W.length c] 75 ∧ Box (wr2.drewN nq) (w.heap.size + 1) #[.int .i64 n,.bool false,.slice q rl d] 38 ∧ Box (wr2.drewN nq) (w.heap.size + 1 + 1) #[.int .i64 0,.slice none 0 0] 75 ∧ Box (wr2.drewN nq) (w.heap.size + 1 + 1 + 1) #[.int .i64 tx,(.slice pv Z.length cv)] 75) := ⟨HX1.out.1.on hdr,HX1.out.2.1.on hdr,HX1.out.2.2.1.on hdr,HX1.out.2.2.2.on hdr⟩
         have hO2:Hid (HasRb (wr2.drewN nq) (w.heap.size + 4) w.heap.size (.slice pv Z.length cv) Z) := hO1.out.kept hdr hn1.size
         have HSz2:Hid (w.heap.size + 4 ≤ (wr2.drewN nq).heap.size) := Nat.le_trans HSz1.out hdr.size
         have hn2:Below w.heap.size w (wr2.drewN nq) := below_drewN hn1 _
         have a0 := (hdr.cell (p := ⟨b,o + j * 3,none⟩) (Nat.lt_of_lt_of_le hbB hn1.size)).trans a0
         have a1 := (hdr.cell (p := ⟨b,o + j * 3 + 1,none⟩) (Nat.lt_of_lt_of_le hbB hn1.size)).trans a1
         have a2 := (hdr.cell (p := ⟨b,o + j * 3 + 2,none⟩) (Nat.lt_of_lt_of_le hbB hn1.size)).trans a2
         clear x0 x1 x2 x3 u0 u1 u2 hO1 HX1 HSz1 hn1 hdr
         generalize wr2.drewN nq = wr3 at *
         have hbw:b < wr3.drew.heap.size := Nat.lt_of_lt_of_le hbB hn2.size
         go_wp2_with fail
         refine wp_region_L (fun w' => Box w' w.heap.size #[.int .i64 tx,.slice (some ⟨b,o,none⟩) W.length c] 75 ∧ Box w' (w.heap.size + 1 + 1 + 1) #[.int .i64 tx,(.slice pv Z.length cv)] 75 ∧ w'.cell? ⟨b,o + j * 3,none⟩ = some (.int .i64 xn) ∧ w'.cell? ⟨b,o + j * 3 + 1,none⟩ = some (.bool xg) ∧ w'.cell? ⟨b,o + j * 3 + 2,none⟩ = some (.slice q1 xl d1)) 10 (by kernel_rfl) ?_
         have hS0:Box wr3.drew w.heap.size #[.int .i64 tx,.slice (some ⟨b,o,none⟩) W.length c] 75 ∧ Box wr3.drew (w.heap.size + 1 + 1 + 1) #[.int .i64 tx,(.slice pv Z.length cv)] 75 ∧ wr3.drew.cell? ⟨b,o + j * 3,none⟩ = some (.int .i64 xn) ∧ wr3.drew.cell? ⟨b,o + j * 3 + 1,none⟩ = some (.bool xg) ∧ wr3.drew.cell? ⟨b,o + j * 3 + 2,none⟩ = some (.slice q1 xl d1) := ⟨HX2.out.1,HX2.out.2.2.2,a0,a1,a2⟩
         have hO0:HasRb wr3.drew (w.heap.size + 4) w.heap.size (.slice pv Z.length cv) Z := hO2.out
         have hBd:Below w.heap.size w wr3.drew := hn2.drew
         clear hO2
         refine wpL_take (v := ?_) 0 rfl (by kernel_rfl) (fun _ _ _ h => h) (by rfl) ?_ hS0 ?_
         rotate_left
         focus
          intro w9 hw9
          obtain ⟨a0,a1,_,_⟩ := box2 hw9.1
          obtain ⟨e0,e1,_,_⟩ := box2 hw9.2.1
          obtain ⟨f0,f1,f2⟩ := hw9.2.2
          go_simp
          try with_reducible rfl
         try simp only [Act.put,List.setIfInBounds_toArray,List.set_cons_zero,List.set_cons_succ]
         refine wpL_take (v := ?_) 1 rfl (by kernel_rfl) (fun _ _ _ h => h) (by rfl) ?_ hS0 ?_
         rotate_left
         focus
          intro w9 hw9
          obtain ⟨a0,a1,_,_⟩ := box2 hw9.1
          obtain ⟨e0,e1,_,_⟩ := box2 hw9.2.1
          obtain ⟨f0,f1,f2⟩ := hw9.2.2
          go_simp
          try with_reducible rfl
         try simp only [Act.put,List.setIfInBounds_toArray,List.set_cons_zero,List.set_cons_succ]
         refine wpL_take (v := ?_) 2 rfl (by kernel_rfl) (fun _ _ _ h => h) (by rfl) ?_ hS0 ?_
         rotate_left
         focus
          intro w9 hw9
          obtain ⟨a0,a1,_,_⟩ := box2 hw9.1
          obtain ⟨e0,e1,_,_⟩ := box2 hw9.2.1
          obtain ⟨f0,f1,f2⟩ := hw9.2.2
          go_simp
          try with_reducible rfl
         try simp only [Act.put,List.setIfInBounds_toArray,List.set_cons_zero,List.set_cons_succ]
         refine wpL_take (v := ?_) 3 rfl (by kernel_rfl) (fun _ _ _ h => h) (by rfl) ?_ hS0 ?_
         rotate_left
         focus
          intro w9 hw9
          obtain ⟨a0,a1,_,_⟩ := box2 hw9.1
          obtain ⟨e0,e1,_,_⟩ := box2 hw9.2.1
          obtain ⟨f0,f1,f2⟩ := hw9.2.2
          go_simp
          try with_reducible rfl
         try simp only [Act.put,List.setIfInBounds_toArray,List.set_cons_zero,List.set_cons_succ]
         refine wpL_take (v := ?_) 4 rfl (by kernel_rfl) (fun _ _ _ h => h) (by rfl) ?_ hS0 ?_
         rotate_left
         focus
          intro w9 hw9
          obtain ⟨a0,a1,_,_⟩ := box2 hw9.1
          obtain ⟨e0,e1,_,_⟩ := box2 hw9.2.1
          obtain ⟨f0,f1,f2⟩ := hw9.2.2
          go_simp
          try with_reducible rfl
         try simp only [Act.put,List.setIfInBounds_toArray,List.set_cons_zero,List.set_cons_succ]
         refine wpL_take (v := ?_) 5 rfl (by kernel_rfl) (fun _ _ _ h => h) (by rfl) ?_ hS0 ?_
         rotate_left
         focus
          intro w9 hw9
          obtain ⟨a0,a1,_,_⟩ := box2 hw9.1
          obtain ⟨e0,e1,_,_⟩ := box2 hw9.2.1
          obtain ⟨f0,f1,f2⟩ := hw9.2.2
          go_simp
          try with_reducible rfl
         try simp only [Act.put,List.setIfInBounds_toArray,List.set_cons_zero,List.set_cons_succ]
         refine wpL_take (v := ?_) 6 rfl (by kernel_rfl) (fun _ _ _ h => h) (by rfl) ?_ hS0 ?_
         rotate_left
         focus
          intro w9 hw9
          obtain ⟨a0,a1,_,_⟩ := box2 hw9.1
          obtain ⟨e0,e1,_,_⟩ := box2 hw9.2.1
          obtain ⟨f0,f1,f2⟩ := hw9.2.2
          go_simp
          try with_reducible rfl
         try simp only [Act.put,List.setIfInBounds_toArray,List.set_cons_zero,List.set_cons_succ]
         refine wpL_one 7 rfl (by kernel_rfl) (by rfl) ?_
         intro K hK
         go_simp
         have hba:Below wr3.drew.heap.size wr3.drew (wr3.drew.alloc (.cells #[.int .i64 xn,.bool xg,.slice q1 xl d1] 38)) := (Below.refl _ _).alloc (Nat.le_refl _) _
         have kp:∀ {k:Nat} {u:Option Value},wr3.drew.cell? ⟨b,k,none⟩ = u → (wr3.drew.alloc (.cells #[.int .i64 xn,.bool xg,.slice q1 xl d1] 38)).cell? ⟨b,k,none⟩ = u := fun {k u} h => (hba.cell (p := ⟨b,k,none⟩) hbw).trans h
         have hS7:Box (wr3.drew.alloc (.cells #[.int .i64 xn,.bool xg,.slice q1 xl d1] 38)) w.heap.size #[.int .i64 tx,.slice (some ⟨b,o,none⟩) W.length c] 75 ∧ Box (wr3.drew.alloc (.cells #[.int .i64 xn,.bool xg,.slice q1 xl d1] 38)) (w.heap.size + 1 + 1 + 1) #[.int .i64 tx,(.slice pv Z.length cv)] 75 ∧ (wr3.drew.alloc (.cells #[.int .i64 xn,.bool xg,.slice q1 xl d1] 38)).cell? ⟨b,o + j * 3,none⟩ = some (.int .i64 xn) ∧ (wr3.drew.alloc (.cells #[.int .i64 xn,.bool xg,.slice q1 xl d1] 38)).cell? ⟨b,o + j * 3 + 1,none⟩ = some (.bool xg) ∧ (wr3.drew.alloc (.cells #[.int .i64 xn,.bool xg,.slice q1 xl d1] 38)).cell? ⟨b,o + j * 3 + 2,none⟩ = some (.slice q1 xl d1) := ⟨hS0.1.on hba,hS0.2.1.on hba,kp hS0.2.2.1,kp hS0.2.2.2.1,kp hS0.2.2.2.2⟩
         refine hK.out _ _ (fun _ => hS7) ?_
         clear hK K kp
         try simp only [Act.put,List.setIfInBounds_toArray,List.set_cons_zero,List.set_cons_succ]
         refine wpL_one 8 rfl (by kernel_rfl) (by rfl) ?_
         intro K hK
         refine wp_app8 _ (.tmp 57) (.tmp 63) 38 73 _ 3 40 rfl Tryz.underlying73 info_wri rfl (by decide) (w.heap.size + 4) _ Z.length (Z.flatMap (rcell .i64)) (by rfl) (hO0.kept hba hBd.size).1 [.int .i64 xn,.bool xg,.slice q1 xl d1] rfl (three_one rfl) wr3.drew.heap.size (by rfl) (cell_new8 wr3.drew _ _) (by omega) (by omega) (Nat.le_trans HSz2.out hba.size) ?_
         intro v8 w8 h8 h9
         have hb78:Below (w.heap.size + 4) (wr3.drew.alloc (.cells #[.int .i64 xn,.bool xg,.slice q1 xl d1] 38)) w8 := (Below.refl _ _).grown h9 (Nat.le_trans HSz2.out hba.size) (fun k hk => ((hO0.kept hba hBd.size).1.lt k hk).1)
         have hbw8:Below w.heap.size wr3.drew w8 := (hba.mono hBd.size).trans (hb78.mono (by omega))
         have HO8:Hid (HasRb w8 (w.heap.size + 4) w.heap.size v8 (Z ++ [(W[j],.slice q1 xl d1)])) := hO0.app (z := (W[j],.slice q1 xl d1)) (HSl.out.keep hBd) (by rw [HC.out]; exact h8) hbw8
         have kp:∀ {k:Nat} {u:Option Value},wr3.drew.cell? ⟨b,k,none⟩ = u → w8.cell? ⟨b,k,none⟩ = u := fun {k u} h => (hbw8.cell (p := ⟨b,k,none⟩) hbB).trans h
         have hS8:Box w8 w.heap.size #[.int .i64 tx,.slice (some ⟨b,o,none⟩) W.length c] 75 ∧ Box w8 (w.heap.size + 1 + 1 + 1) #[.int .i64 tx,(.slice pv Z.length cv)] 75 ∧ w8.cell? ⟨b,o + j * 3,none⟩ = some (.int .i64 xn) ∧ w8.cell? ⟨b,o + j * 3 + 1,none⟩ = some (.bool xg) ∧ w8.cell? ⟨b,o + j * 3 + 2,none⟩ = some (.slice q1 xl d1) := ⟨hS7.1.keep hb78 (by omega),hS7.2.1.keep hb78 (by omega),kp hS0.2.2.1,kp hS0.2.2.2.1,kp hS0.2.2.2.2⟩
         have HXr:Hid (Box w8 (w.heap.size + 1 + 1) _ _) := (Box.on (w := wr3.drew) HX2.out.2.2.1 hba).keep hb78 (by omega)
         have HXw:Hid (Box w8 (w.heap.size + 1) _ _) := (Box.on (w := wr3.drew) HX2.out.2.1 hba).keep hb78 (by omega)
         have HB8:Hid (Below w.heap.size w w8) := hBd.trans hbw8
         have HSz8:Hid ((w.heap.size + 4) ≤ w8.heap.size) := Nat.le_trans (Nat.le_trans HSz2.out hba.size) hb78.size
         clear h8 h9 hb78 hbw8 kp
         obtain ⟨p8,c8,e8,_⟩ := owns_len HO8.out.1
         rw [show (Z ++ [(W[j],Value.slice q1 xl d1)]).length = Z.length + 1 by simp] at e8
         subst e8
         refine hK.out _ _ (fun _ => hS8) ?_
         clear hK K hba hS7 hS0
         try simp only [Act.put,List.setIfInBounds_toArray,List.set_cons_zero,List.set_cons_succ]
         refine wpL_take (v := ?_) 9 rfl (by kernel_rfl) (fun _ _ _ h => h) (by rfl) ?_ hS8 ?_
         rotate_left
         focus
          intro w9 hw9
          go_simp
          try with_reducible rfl
         try simp only [Act.put,List.setIfInBounds_toArray,List.set_cons_zero,List.set_cons_succ]
         refine wpL_one 10 rfl (by kernel_rfl) (by rfl) ?_
         intro K hK
         obtain ⟨z0,z1,z2,z3⟩ := box2 hS8.2.1
         go_simp
         refine hK.out _ _ (fun h => absurd rfl h) ?_
         clear hK K
         refine wpL_done (by kernel_rfl) ?_ _
         refine NoPanic.normal ?_
         have hZ := hS8.2.1.set (i := 1) (.slice p8 (Z.length + 1) c8)
         have hN := HO8.out.off (i := 1) (j := (w.heap.size + 1 + 1 + 1)) (.slice p8 (Z.length + 1) c8) (by omega) (by omega)
         have hB := HB8.out.setCell (p := ⟨(w.heap.size + 1 + 1 + 1),1,none⟩) (show w.heap.size ≤ (w.heap.size + 1 + 1 + 1) by omega) (.slice p8 (Z.length + 1) c8)
         have hXr := HXr.out.off (i := 1) (j := (w.heap.size + 1 + 1 + 1)) (.slice p8 (Z.length + 1) c8) (by omega)
         have hXi := hS8.1.off (i := 1) (j := (w.heap.size + 1 + 1 + 1)) (.slice p8 (Z.length + 1) c8) (by omega)
         have hXw := HXw.out.off (i := 1) (j := (w.heap.size + 1 + 1 + 1)) (.slice p8 (Z.length + 1) c8) (by omega)
         have hSz9:w.heap.size + 4 ≤ (w8.setCell ⟨(w.heap.size + 1 + 1 + 1),1,none⟩ (.slice p8 (Z.length + 1) c8)).heap.size := by simpa [World.setCell] using HSz8.out
         generalize w8.setCell ⟨(w.heap.size + 1 + 1 + 1),1,none⟩ (.slice p8 (Z.length + 1) c8) = w9 at *
         go_wp2_with fail
         go_roundw
         case rel => exact ⟨j + 1,Z ++ [(W[j],Value.slice q1 xl d1)],.slice p8 (Z.length + 1) c8,hj1,by go_num,⟨HY2.out _,HLe2.out⟩,hN,⟨hXi,hXw,hXr,hZ⟩,hSz9,hB⟩
         case measure => simp [intOf]; omega
        ·have HN2:Hid (Z.map Prod.fst = belL (W.take (j + 1)) n) := HNo.out hx
         have hx':n ≤ xn := by omega
         clear HY HNo hx
         go_wp2_with fail
         go_quiet (fail)
         have hdr:Below wr.heap.size wr (wr.drewN nq) := below_drewN (Below.refl _ _) _
         have HX1:Hid (Box (wr.drewN nq) w.heap.size #[.int .i64 tx,.slice (some ⟨b,o,none⟩) W.length c] 75 ∧ Box (wr.drewN nq) (w.heap.size + 1) #[.int .i64 n,.bool false,.slice q rl d] 38 ∧ Box (wr.drewN nq) (w.heap.size + 1 + 1) #[.int .i64 0,.slice none 0 0] 75 ∧ Box (wr.drewN nq) (w.heap.size + 1 + 1 + 1) #[.int .i64 tx,(.slice pv Z.length cv)] 75) := ⟨HX.out.1.on hdr,HX.out.2.1.on hdr,HX.out.2.2.1.on hdr,HX.out.2.2.2.on hdr⟩
         have hO1:Hid (HasRb (wr.drewN nq) (w.heap.size + 4) w.heap.size (.slice pv Z.length cv) Z) := hO.out.kept hdr hn.size
         have HSz1:Hid (w.heap.size + 4 ≤ (wr.drewN nq).heap.size) := Nat.le_trans HSz.out hdr.size
         have hn1:Below w.heap.size w (wr.drewN nq) := below_drewN hn _
         have a0 := (hdr.cell (p := ⟨b,o + j * 3,none⟩) (Nat.lt_of_lt_of_le hbB hn.size)).trans a0
         have a1 := (hdr.cell (p := ⟨b,o + j * 3 + 1,none⟩) (Nat.lt_of_lt_of_le hbB hn.size)).trans a1
         have a2 := (hdr.cell (p := ⟨b,o + j * 3 + 2,none⟩) (Nat.lt_of_lt_of_le hbB hn.size)).trans a2
         clear x0 x1 x2 x3 u0 u1 u2 r0 r1 r2 r3 y0 y1 y2 y3 hO HX HSz hn hdr
         generalize wr.drewN nq = wr2 at *
         obtain ⟨x0,x1,x2,x3⟩ := box2 HX1.out.1
         obtain ⟨⟨u0,u1,u2⟩,_⟩ := box3 HX1.out.2.1
         go_wp2_with fail
         go_quiet (fail)
         have hdr:Below wr2.heap.size wr2 (wr2.drewN nq) := below_drewN (Below.refl _ _) _
         have HX2:Hid (Box (wr2.drewN nq) w.heap.size #[.int .i64 tx,.slice (some ⟨b,o,none⟩) W.length c] 75 ∧ Box (wr2.drewN nq) (w.heap.size + 1) #[.int .i64 n,.bool false,.slice q rl d] 38 ∧ Box (wr2.drewN nq) (w.heap.size + 1 + 1) #[.int .i64 0,.slice none 0 0] 75 ∧ Box (wr2.drewN nq) (w.heap.size + 1 + 1 + 1) #[.int .i64 tx,(.slice pv Z.length cv)] 75) := ⟨HX1.out.1.on hdr,HX1.out.2.1.on hdr,HX1.out.2.2.1.on hdr,HX1.out.2.2.2.on hdr⟩
         have hO2:Hid (HasRb (wr2.drewN nq) (w.heap.size + 4) w.heap.size (.slice pv Z.length cv) Z) := hO1.out.kept hdr hn1.size
         have HSz2:Hid (w.heap.size + 4 ≤ (wr2.drewN nq).heap.size) := Nat.le_trans HSz1.out hdr.size
         have hn2:Below w.heap.size w (wr2.drewN nq) := below_drewN hn1 _
         have a0 := (hdr.cell (p := ⟨b,o + j * 3,none⟩) (Nat.lt_of_lt_of_le hbB hn1.size)).trans a0
         have a1 := (hdr.cell (p := ⟨b,o + j * 3 + 1,none⟩) (Nat.lt_of_lt_of_le hbB hn1.size)).trans a1
         have a2 := (hdr.cell (p := ⟨b,o + j * 3 + 2,none⟩) (Nat.lt_of_lt_of_le hbB hn1.size)).trans a2
         clear x0 x1 x2 x3 u0 u1 u2 hO1 HX1 HSz1 hn1 hdr
         generalize wr2.drewN nq = wr3 at *
         have hbw:b < wr3.drew.heap.size := Nat.lt_of_lt_of_le hbB hn2.size
         go_wp2_with fail
         go_roundw
         case rel => exact ⟨j + 1,Z,_,hj1,by go_num,⟨HN2.out,HLe2.out⟩,hO2,HX2,HSz2,hn2⟩
         case measure => simp [intOf]; omega
    ·go_enter Tryz.func61,Tryz.ntmps61
     go_wp2_with fail
     generalize ((((w.alloc (.cells #[.int .i64 tx,.slice p W.length c] 75)).alloc (.cells #[.int .i64 n,.bool true,.slice q 0 d] 38)).alloc (.cells #[.int .i64 0,.slice none 0 0] 75)).alloc (.cells #[.int .i64 tx,.slice none 0 0] 75)) = w3 at *
     go_loopw [7] (fun i wr => ∃ (j:Nat) (Z:List (Rw × Value)) (v:Value),j ≤ W.length ∧ i = .int .i64 (j:Int) ∧ Hid (Z.map Prod.fst = belL (W.take j) n ∧ ∀ i (hi:i < W.length),i < j → W[i].n ≤ n) ∧ Hid (HasRb wr (w.heap.size + 4) w.heap.size v Z) ∧ Hid (Box wr w.heap.size #[.int .i64 tx,.slice p W.length c] 75 ∧ Box wr (w.heap.size + 1) #[.int .i64 n,.bool true,.slice q 0 d] 38 ∧ Box wr (w.heap.size + 1 + 1) #[.int .i64 0,.slice none 0 0] 75 ∧ Box wr (w.heap.size + 1 + 1 + 1) #[.int .i64 tx,v] 75) ∧ Hid (w.heap.size + 4 ≤ wr.heap.size) ∧ Below w.heap.size w wr) (fun i _ => W.length - (intOf i).toNat)
     case atStart => exact ⟨0,[],_,Nat.zero_le _,by go_num,⟨rfl,fun i hi h => absurd h (by omega)⟩,HasRb.nil _ _ _,HX0,HB0.out.2,HB0.out.1⟩
     case round =>
      obtain ⟨j,Z,v,hj,rfl,hZ,hO,HX,HSz,hn⟩ := hrel
      clear HX0 HB0
      have hZl:Z.length ≤ j := by
       have := congrArg List.length hZ.out.1
       rw [List.length_map] at this
       rw [this]
       exact bel_len _ _ _
      obtain ⟨pv,cv,rfl,_⟩ := owns_len hO.out.1
      obtain ⟨x0,x1,x2,x3⟩ := box2 HX.out.1
      obtain ⟨⟨u0,u1,u2⟩,_⟩ := box3 HX.out.2.1
      obtain ⟨r0,r1,r2,r3⟩ := box2 HX.out.2.2.1
      obtain ⟨y0,y1,y2,y3⟩ := box2 HX.out.2.2.2
      by_cases hj0:j = W.length
      ·subst hj0
       have HE:Hid (pt = tx ∧ pe = 0 ∧ pl = belL W n ++ [⟨n,true,row⟩]) := by
        obtain ⟨e1,e2,e3⟩ := HOk.out (HPB2.out.trans (HN.out fun i hi => hZ.out.2 i hi hi))
        exact ⟨e2,e1,e3⟩
       have HZ2:Hid (Z.map Prod.fst = belL W n) := hZ.out.1.trans (bel_all W n)
       have hszr := HSz.out
       have HVr:Hid (SlV wr w.heap.size (.slice q 0 d) row) := HV.out.keep hn
       clear HOk HBad HN HP hZ
       go_wp2_with (first | (at_builtin; go_loud (refine wpList_app1 wr rfl (.tmp 67) (.tmp 69) 38 73 _ 3 40 rfl Tryz.underlying73 info_wri rfl (by decide) (w.heap.size + 4) _ _ _ (by rfl) hO.out.1 [.int .i64 n,.bool true,.slice q 0 d] rfl (by simp [Value.oneCell']) _ rfl (by simp) (by omega) (by omega) hszr ?_); intro v6 w6 h6 h7 h8; have hX6 := HX.out.2.2.2.keep h7 (show w.heap.size + 1 + 1 + 1 < w.heap.size + 4 by omega); have hR6 := HX.out.2.2.1.keep h7 (show w.heap.size + 1 + 1 < w.heap.size + 4 by omega); obtain ⟨k0,k1,k2,k3⟩ := box2 hX6; obtain ⟨m0,m1,m2,m3⟩ := box2 hR6; obtain ⟨p6,c6,e6,_⟩ := owns_len h6; subst e6))
       have H6:HasRb w6 (w.heap.size + 4) w.heap.size (.slice p6 (Z.length + 1) c6) (Z ++ [(⟨n,true,row⟩,.slice q 0 d)]) := hO.out.app (z := (⟨n,true,row⟩,.slice q 0 d)) HVr.out (by rw [HC0.out]; exact h6) (h7.mono (by omega))
       have hB6:Below w.heap.size w w6 := hn.trans (h7.mono (by omega))
       have hZm:(Z ++ [((⟨n,true,row⟩:Rw),Value.slice q 0 d)]).map Prod.fst = belL W n ++ [⟨n,true,row⟩] := by
        rw [List.map_append,HZ2.out]
        rfl
       have hN := ((H6.off (i := 1) (j := (w.heap.size + 1 + 1 + 1)) (.slice p6 (Z.length + 1) c6) (by omega) (by omega)).off (i := 0) (j := w.heap.size + 1 + 1) (.int .i64 tx) (by omega) (by omega)).off (i := 1) (j := w.heap.size + 1 + 1) (.slice p6 (Z.length + 1) c6) (by omega) (by omega)
       have hB := ((hB6.setCell (p := ⟨(w.heap.size + 1 + 1 + 1),1,none⟩) (show w.heap.size ≤ (w.heap.size + 1 + 1 + 1) by omega) (.slice p6 (Z.length + 1) c6)).setCell (p := ⟨w.heap.size + 1 + 1,0,none⟩) (show w.heap.size ≤ w.heap.size + 1 + 1 by omega) (.int .i64 tx)).setCell (p := ⟨w.heap.size + 1 + 1,1,none⟩) (show w.heap.size ≤ w.heap.size + 1 + 1 by omega) (.slice p6 (Z.length + 1) c6)
       have hZZ := ((hR6.off (i := 1) (j := (w.heap.size + 1 + 1 + 1)) (.slice p6 (Z.length + 1) c6) (by omega)).set (i := 0) (.int .i64 tx)).set (i := 1) (.slice p6 (Z.length + 1) c6)
       clear h6 h7 h8 k0 k1 k2 k3 m0 m1 m2 m3 hX6 hR6 H6 hB6
       generalize ((w6.setCell ⟨(w.heap.size + 1 + 1 + 1),1,none⟩ (.slice p6 (Z.length + 1) c6)).setCell ⟨w.heap.size + 1 + 1,0,none⟩ (.int .i64 tx)).setCell ⟨w.heap.size + 1 + 1,1,none⟩ (.slice p6 (Z.length + 1) c6) = w9 at *
       obtain ⟨k0,k1,_⟩ := box2 hZZ
       (try simp only [Exit.inBlock,Exit.then])
       refine bodyPost_ret (v := .tuple #[.agg #[.int .i64 tx,.slice p6 (Z.length + 1) c6],.int .i64 0]) (by simp [results,Tryz.results61,go_sem,k0,k1]) rfl ?_
       exact ⟨⟨_,Z ++ [((⟨n,true,row⟩:Rw),Value.slice q 0 d)],by rw [HE.out.1,HE.out.2.1],by rw [HE.out.2.2,hZm],⟨owns_base hN.1 (by omega),hN.2⟩⟩,hB⟩
      ·have hj1:j < W.length := by omega
       obtain ⟨b,o,q1,d1,rfl,hbB,c0,c1,c2,hr,hq⟩ := HR.out j hj1
       have a0 := (hn.cell (p := ⟨b,o + j * 3,none⟩) hbB).trans c0
       have a1 := (hn.cell (p := ⟨b,o + j * 3 + 1,none⟩) hbB).trans c1
       have a2 := (hn.cell (p := ⟨b,o + j * 3 + 2,none⟩) hbB).trans c2
       have HSl:Hid (SlV w w.heap.size (.slice q1 W[j].row.length d1) W[j].row) := ⟨q1,d1,rfl,hr,hq⟩
       have HC:Hid (∀ v,rcell .i64 (W[j],v) = [.int .i64 W[j].n,.bool W[j].gn,v]) := fun v => rfl
       have HY:Hid (W[j].n < n → ∀ v,(Z ++ [(W[j],v)]).map Prod.fst = belL (W.take (j + 1)) n) := fun h v => bel_yes hj1 h v hZ.out.1
       have HNo:Hid (¬ W[j].n < n → Z.map Prod.fst = belL (W.take (j + 1)) n) := fun h => bel_no hj1 h hZ.out.1
       have HUp:Hid (n < W[j].n → ab = true) := fun h => HP.out j hj1 h
       have HLe:Hid (W[j].n ≤ n → ∀ i (hi:i < W.length),i < j + 1 → W[i].n ≤ n) := fun h i hi hi2 => by
        rcases Nat.lt_succ_iff_lt_or_eq.1 hi2 with h3 | rfl
        ·exact hZ.out.2 i hi h3
        ·exact h
       clear c0 c1 c2 hj0 hr hq hZ
       generalize W[j].n = xn at *
       generalize W[j].gn = xg at *
       generalize W[j].row.length = xl at *
       by_cases hup:n < xn
       ·have HE:Hid (pt = 0 ∧ pe = 1 ∧ pl = []) := by
         obtain ⟨e1,e2,e3⟩ := HBad.out (HPB2.out.trans (HUp.out hup))
         exact ⟨e2,e1,e3⟩
        clear HY HNo HLe HUp
        go_wp2_with fail
        go_quiet (fail)
        go_wp2_with fail
        have hXd:Box (wr.drewN nq) (w.heap.size + 1 + 1) #[.int .i64 0,.slice none 0 0] 75 := HX.out.2.2.1.on (below_drewN (Below.refl _ _) _)
        have hBd:Below w.heap.size w (wr.drewN nq) := below_drewN hn _
        have hZZ := (hXd.set (i := 0) (.int .i64 0)).set (i := 1) (.slice none 0 0)
        have hB := (hBd.setCell (p := ⟨w.heap.size + 1 + 1,0,none⟩) (show w.heap.size ≤ w.heap.size + 1 + 1 by omega) (.int .i64 0)).setCell (p := ⟨w.heap.size + 1 + 1,1,none⟩) (show w.heap.size ≤ w.heap.size + 1 + 1 by omega) (.slice none 0 0)
        generalize ((wr.drewN nq).setCell ⟨w.heap.size + 1 + 1,0,none⟩ (.int .i64 0)).setCell ⟨w.heap.size + 1 + 1,1,none⟩ (.slice none 0 0) = w9 at *
        obtain ⟨k0,k1,_⟩ := box2 hZZ
        (try simp only [Exit.inBlock,Exit.then])
        refine bodyPost_ret (v := .tuple #[.agg #[.int .i64 0,.slice none 0 0],.int .i64 1]) (by simp [results,Tryz.results61,go_sem,k0,k1]) rfl ?_
        exact ⟨⟨_,[],by rw [HE.out.1,HE.out.2.1],by rw [HE.out.2.2]; rfl,HasRb.nil _ _ _⟩,hB⟩
       ·have HLe2:Hid (∀ i (hi:i < W.length),i < j + 1 → W[i].n ≤ n) := HLe.out (by omega)
        have hup':xn ≤ n := by omega
        clear hup HUp HLe
        by_cases hx:xn < n
        ·have HY2:Hid (∀ v,(Z ++ [(W[j],v)]).map Prod.fst = belL (W.take (j + 1)) n) := HY.out hx
         clear HY HNo
         go_wp2_with fail
         go_quiet (fail)
         have hdr:Below wr.heap.size wr (wr.drewN nq) := below_drewN (Below.refl _ _) _
         have HX1:Hid (Box (wr.drewN nq) w.heap.size #[.int .i64 tx,.slice (some ⟨b,o,none⟩) W.length c] 75 ∧ Box (wr.drewN nq) (w.heap.size + 1) #[.int .i64 n,.bool true,.slice q 0 d] 38 ∧ Box (wr.drewN nq) (w.heap.size + 1 + 1) #[.int .i64 0,.slice none 0 0] 75 ∧ Box (wr.drewN nq) (w.heap.size + 1 + 1 + 1) #[.int .i64 tx,(.slice pv Z.length cv)] 75) := ⟨HX.out.1.on hdr,HX.out.2.1.on hdr,HX.out.2.2.1.on hdr,HX.out.2.2.2.on hdr⟩
         have hO1:Hid (HasRb (wr.drewN nq) (w.heap.size + 4) w.heap.size (.slice pv Z.length cv) Z) := hO.out.kept hdr hn.size
         have HSz1:Hid (w.heap.size + 4 ≤ (wr.drewN nq).heap.size) := Nat.le_trans HSz.out hdr.size
         have hn1:Below w.heap.size w (wr.drewN nq) := below_drewN hn _
         have a0 := (hdr.cell (p := ⟨b,o + j * 3,none⟩) (Nat.lt_of_lt_of_le hbB hn.size)).trans a0
         have a1 := (hdr.cell (p := ⟨b,o + j * 3 + 1,none⟩) (Nat.lt_of_lt_of_le hbB hn.size)).trans a1
         have a2 := (hdr.cell (p := ⟨b,o + j * 3 + 2,none⟩) (Nat.lt_of_lt_of_le hbB hn.size)).trans a2
         clear x0 x1 x2 x3 u0 u1 u2 r0 r1 r2 r3 y0 y1 y2 y3 hO HX HSz hn hdr
         generalize wr.drewN nq = wr2 at *
         obtain ⟨x0,x1,x2,x3⟩ := box2 HX1.out.1
         obtain ⟨⟨u0,u1,u2⟩,_⟩ := box3 HX1.out.2.1
         go_wp2_with fail
         go_quiet (fail)
         have hdr:Below wr2.heap.size wr2 (wr2.drewN nq) := below_drewN (Below.refl _ _) _
         have HX2:Hid (Box (wr2.drewN nq) w.heap.size #[.int .i64 tx,.slice (some ⟨b,o,none⟩) W.length c] 75 ∧ Box (wr2.drewN nq) (w.heap.size + 1) #[.int .i64 n,.bool true,.slice q 0 d] 38 ∧ Box (wr2.drewN nq) (w.heap.size + 1 + 1) #[.int .i64 0,.slice none 0 0] 75 ∧ Box (wr2.drewN nq) (w.heap.size + 1 + 1 + 1) #[.int .i64 tx,(.slice pv Z.length cv)] 75) := ⟨HX1.out.1.on hdr,HX1.out.2.1.on hdr,HX1.out.2.2.1.on hdr,HX1.out.2.2.2.on hdr⟩
         have hO2:Hid (HasRb (wr2.drewN nq) (w.heap.size + 4) w.heap.size (.slice pv Z.length cv) Z) := hO1.out.kept hdr hn1.size
         have HSz2:Hid (w.heap.size + 4 ≤ (wr2.drewN nq).heap.size) := Nat.le_trans HSz1.out hdr.size
         have hn2:Below w.heap.size w (wr2.drewN nq) := below_drewN hn1 _
         have a0 := (hdr.cell (p := ⟨b,o + j * 3,none⟩) (Nat.lt_of_lt_of_le hbB hn1.size)).trans a0
         have a1 := (hdr.cell (p := ⟨b,o + j * 3 + 1,none⟩) (Nat.lt_of_lt_of_le hbB hn1.size)).trans a1
         have a2 := (hdr.cell (p := ⟨b,o + j * 3 + 2,none⟩) (Nat.lt_of_lt_of_le hbB hn1.size)).trans a2
         clear x0 x1 x2 x3 u0 u1 u2 hO1 HX1 HSz1 hn1 hdr
         generalize wr2.drewN nq = wr3 at *
         have hbw:b < wr3.drew.heap.size := Nat.lt_of_lt_of_le hbB hn2.size
         go_wp2_with fail
         refine wp_region_L (fun w' => Box w' w.heap.size #[.int .i64 tx,.slice (some ⟨b,o,none⟩) W.length c] 75 ∧ Box w' (w.heap.size + 1 + 1 + 1) #[.int .i64 tx,(.slice pv Z.length cv)] 75 ∧ w'.cell? ⟨b,o + j * 3,none⟩ = some (.int .i64 xn) ∧ w'.cell? ⟨b,o + j * 3 + 1,none⟩ = some (.bool xg) ∧ w'.cell? ⟨b,o + j * 3 + 2,none⟩ = some (.slice q1 xl d1)) 10 (by kernel_rfl) ?_
         have hS0:Box wr3.drew w.heap.size #[.int .i64 tx,.slice (some ⟨b,o,none⟩) W.length c] 75 ∧ Box wr3.drew (w.heap.size + 1 + 1 + 1) #[.int .i64 tx,(.slice pv Z.length cv)] 75 ∧ wr3.drew.cell? ⟨b,o + j * 3,none⟩ = some (.int .i64 xn) ∧ wr3.drew.cell? ⟨b,o + j * 3 + 1,none⟩ = some (.bool xg) ∧ wr3.drew.cell? ⟨b,o + j * 3 + 2,none⟩ = some (.slice q1 xl d1) := ⟨HX2.out.1,HX2.out.2.2.2,a0,a1,a2⟩
         have hO0:HasRb wr3.drew (w.heap.size + 4) w.heap.size (.slice pv Z.length cv) Z := hO2.out
         have hBd:Below w.heap.size w wr3.drew := hn2.drew
         clear hO2
         refine wpL_take (v := ?_) 0 rfl (by kernel_rfl) (fun _ _ _ h => h) (by rfl) ?_ hS0 ?_
         rotate_left
         focus
          intro w9 hw9
          obtain ⟨a0,a1,_,_⟩ := box2 hw9.1
          obtain ⟨e0,e1,_,_⟩ := box2 hw9.2.1
          obtain ⟨f0,f1,f2⟩ := hw9.2.2
          go_simp
          try with_reducible rfl
         try simp only [Act.put,List.setIfInBounds_toArray,List.set_cons_zero,List.set_cons_succ]
         refine wpL_take (v := ?_) 1 rfl (by kernel_rfl) (fun _ _ _ h => h) (by rfl) ?_ hS0 ?_
         rotate_left
         focus
          intro w9 hw9
          obtain ⟨a0,a1,_,_⟩ := box2 hw9.1
          obtain ⟨e0,e1,_,_⟩ := box2 hw9.2.1
          obtain ⟨f0,f1,f2⟩ := hw9.2.2
          go_simp
          try with_reducible rfl
         try simp only [Act.put,List.setIfInBounds_toArray,List.set_cons_zero,List.set_cons_succ]
         refine wpL_take (v := ?_) 2 rfl (by kernel_rfl) (fun _ _ _ h => h) (by rfl) ?_ hS0 ?_
         rotate_left
         focus
          intro w9 hw9
          obtain ⟨a0,a1,_,_⟩ := box2 hw9.1
          obtain ⟨e0,e1,_,_⟩ := box2 hw9.2.1
          obtain ⟨f0,f1,f2⟩ := hw9.2.2
          go_simp
          try with_reducible rfl
         try simp only [Act.put,List.setIfInBounds_toArray,List.set_cons_zero,List.set_cons_succ]
         refine wpL_take (v := ?_) 3 rfl (by kernel_rfl) (fun _ _ _ h => h) (by rfl) ?_ hS0 ?_
         rotate_left
         focus
          intro w9 hw9
          obtain ⟨a0,a1,_,_⟩ := box2 hw9.1
          obtain ⟨e0,e1,_,_⟩ := box2 hw9.2.1
          obtain ⟨f0,f1,f2⟩ := hw9.2.2
          go_simp
          try with_reducible rfl
         try simp only [Act.put,List.setIfInBounds_toArray,List.set_cons_zero,List.set_cons_succ]
         refine wpL_take (v := ?_) 4 rfl (by kernel_rfl) (fun _ _ _ h => h) (by rfl) ?_ hS0 ?_
         rotate_left
         focus
          intro w9 hw9
          obtain ⟨a0,a1,_,_⟩ := box2 hw9.1
          obtain ⟨e0,e1,_,_⟩ := box2 hw9.2.1
          obtain ⟨f0,f1,f2⟩ := hw9.2.2
          go_simp
          try with_reducible rfl
         try simp only [Act.put,List.setIfInBounds_toArray,List.set_cons_zero,List.set_cons_succ]
         refine wpL_take (v := ?_) 5 rfl (by kernel_rfl) (fun _ _ _ h => h) (by rfl) ?_ hS0 ?_
         rotate_left
         focus
          intro w9 hw9
          obtain ⟨a0,a1,_,_⟩ := box2 hw9.1
          obtain ⟨e0,e1,_,_⟩ := box2 hw9.2.1
          obtain ⟨f0,f1,f2⟩ := hw9.2.2
          go_simp
          try with_reducible rfl
         try simp only [Act.put,List.setIfInBounds_toArray,List.set_cons_zero,List.set_cons_succ]
         refine wpL_take (v := ?_) 6 rfl (by kernel_rfl) (fun _ _ _ h => h) (by rfl) ?_ hS0 ?_
         rotate_left
         focus
          intro w9 hw9
          obtain ⟨a0,a1,_,_⟩ := box2 hw9.1
          obtain ⟨e0,e1,_,_⟩ := box2 hw9.2.1
          obtain ⟨f0,f1,f2⟩ := hw9.2.2
          go_simp
          try with_reducible rfl
         try simp only [Act.put,List.setIfInBounds_toArray,List.set_cons_zero,List.set_cons_succ]
         refine wpL_one 7 rfl (by kernel_rfl) (by rfl) ?_
         intro K hK
         go_simp
         have hba:Below wr3.drew.heap.size wr3.drew (wr3.drew.alloc (.cells #[.int .i64 xn,.bool xg,.slice q1 xl d1] 38)) := (Below.refl _ _).alloc (Nat.le_refl _) _
         have kp:∀ {k:Nat} {u:Option Value},wr3.drew.cell? ⟨b,k,none⟩ = u → (wr3.drew.alloc (.cells #[.int .i64 xn,.bool xg,.slice q1 xl d1] 38)).cell? ⟨b,k,none⟩ = u := fun {k u} h => (hba.cell (p := ⟨b,k,none⟩) hbw).trans h
         have hS7:Box (wr3.drew.alloc (.cells #[.int .i64 xn,.bool xg,.slice q1 xl d1] 38)) w.heap.size #[.int .i64 tx,.slice (some ⟨b,o,none⟩) W.length c] 75 ∧ Box (wr3.drew.alloc (.cells #[.int .i64 xn,.bool xg,.slice q1 xl d1] 38)) (w.heap.size + 1 + 1 + 1) #[.int .i64 tx,(.slice pv Z.length cv)] 75 ∧ (wr3.drew.alloc (.cells #[.int .i64 xn,.bool xg,.slice q1 xl d1] 38)).cell? ⟨b,o + j * 3,none⟩ = some (.int .i64 xn) ∧ (wr3.drew.alloc (.cells #[.int .i64 xn,.bool xg,.slice q1 xl d1] 38)).cell? ⟨b,o + j * 3 + 1,none⟩ = some (.bool xg) ∧ (wr3.drew.alloc (.cells #[.int .i64 xn,.bool xg,.slice q1 xl d1] 38)).cell? ⟨b,o + j * 3 + 2,none⟩ = some (.slice q1 xl d1) := ⟨hS0.1.on hba,hS0.2.1.on hba,kp hS0.2.2.1,kp hS0.2.2.2.1,kp hS0.2.2.2.2⟩
         refine hK.out _ _ (fun _ => hS7) ?_
         clear hK K kp
         try simp only [Act.put,List.setIfInBounds_toArray,List.set_cons_zero,List.set_cons_succ]
         refine wpL_one 8 rfl (by kernel_rfl) (by rfl) ?_
         intro K hK
         refine wp_app8 _ (.tmp 57) (.tmp 63) 38 73 _ 3 40 rfl Tryz.underlying73 info_wri rfl (by decide) (w.heap.size + 4) _ Z.length (Z.flatMap (rcell .i64)) (by rfl) (hO0.kept hba hBd.size).1 [.int .i64 xn,.bool xg,.slice q1 xl d1] rfl (three_one rfl) wr3.drew.heap.size (by rfl) (cell_new8 wr3.drew _ _) (by omega) (by omega) (Nat.le_trans HSz2.out hba.size) ?_
         intro v8 w8 h8 h9
         have hb78:Below (w.heap.size + 4) (wr3.drew.alloc (.cells #[.int .i64 xn,.bool xg,.slice q1 xl d1] 38)) w8 := (Below.refl _ _).grown h9 (Nat.le_trans HSz2.out hba.size) (fun k hk => ((hO0.kept hba hBd.size).1.lt k hk).1)
         have hbw8:Below w.heap.size wr3.drew w8 := (hba.mono hBd.size).trans (hb78.mono (by omega))
         have HO8:Hid (HasRb w8 (w.heap.size + 4) w.heap.size v8 (Z ++ [(W[j],.slice q1 xl d1)])) := hO0.app (z := (W[j],.slice q1 xl d1)) (HSl.out.keep hBd) (by rw [HC.out]; exact h8) hbw8
         have kp:∀ {k:Nat} {u:Option Value},wr3.drew.cell? ⟨b,k,none⟩ = u → w8.cell? ⟨b,k,none⟩ = u := fun {k u} h => (hbw8.cell (p := ⟨b,k,none⟩) hbB).trans h
         have hS8:Box w8 w.heap.size #[.int .i64 tx,.slice (some ⟨b,o,none⟩) W.length c] 75 ∧ Box w8 (w.heap.size + 1 + 1 + 1) #[.int .i64 tx,(.slice pv Z.length cv)] 75 ∧ w8.cell? ⟨b,o + j * 3,none⟩ = some (.int .i64 xn) ∧ w8.cell? ⟨b,o + j * 3 + 1,none⟩ = some (.bool xg) ∧ w8.cell? ⟨b,o + j * 3 + 2,none⟩ = some (.slice q1 xl d1) := ⟨hS7.1.keep hb78 (by omega),hS7.2.1.keep hb78 (by omega),kp hS0.2.2.1,kp hS0.2.2.2.1,kp hS0.2.2.2.2⟩
         have HXr:Hid (Box w8 (w.heap.size + 1 + 1) _ _) := (Box.on (w := wr3.drew) HX2.out.2.2.1 hba).keep hb78 (by omega)
         have HXw:Hid (Box w8 (w.heap.size + 1) _ _) := (Box.on (w := wr3.drew) HX2.out.2.1 hba).keep hb78 (by omega)
         have HB8:Hid (Below w.heap.size w w8) := hBd.trans hbw8
         have HSz8:Hid ((w.heap.size + 4) ≤ w8.heap.size) := Nat.le_trans (Nat.le_trans HSz2.out hba.size) hb78.size
         clear h8 h9 hb78 hbw8 kp
         obtain ⟨p8,c8,e8,_⟩ := owns_len HO8.out.1
         rw [show (Z ++ [(W[j],Value.slice q1 xl d1)]).length = Z.length + 1 by simp] at e8
         subst e8
         refine hK.out _ _ (fun _ => hS8) ?_
         clear hK K hba hS7 hS0
         try simp only [Act.put,List.setIfInBounds_toArray,List.set_cons_zero,List.set_cons_succ]
         refine wpL_take (v := ?_) 9 rfl (by kernel_rfl) (fun _ _ _ h => h) (by rfl) ?_ hS8 ?_
         rotate_left
         focus
          intro w9 hw9
          go_simp
          try with_reducible rfl
         try simp only [Act.put,List.setIfInBounds_toArray,List.set_cons_zero,List.set_cons_succ]
         refine wpL_one 10 rfl (by kernel_rfl) (by rfl) ?_
         intro K hK
         obtain ⟨z0,z1,z2,z3⟩ := box2 hS8.2.1
         go_simp
         refine hK.out _ _ (fun h => absurd rfl h) ?_
         clear hK K
         refine wpL_done (by kernel_rfl) ?_ _
         refine NoPanic.normal ?_
         have hZ := hS8.2.1.set (i := 1) (.slice p8 (Z.length + 1) c8)
         have hN := HO8.out.off (i := 1) (j := (w.heap.size + 1 + 1 + 1)) (.slice p8 (Z.length + 1) c8) (by omega) (by omega)
         have hB := HB8.out.setCell (p := ⟨(w.heap.size + 1 + 1 + 1),1,none⟩) (show w.heap.size ≤ (w.heap.size + 1 + 1 + 1) by omega) (.slice p8 (Z.length + 1) c8)
         have hXr := HXr.out.off (i := 1) (j := (w.heap.size + 1 + 1 + 1)) (.slice p8 (Z.length + 1) c8) (by omega)
         have hXi := hS8.1.off (i := 1) (j := (w.heap.size + 1 + 1 + 1)) (.slice p8 (Z.length + 1) c8) (by omega)
         have hXw := HXw.out.off (i := 1) (j := (w.heap.size + 1 + 1 + 1)) (.slice p8 (Z.length + 1) c8) (by omega)
         have hSz9:w.heap.size + 4 ≤ (w8.setCell ⟨(w.heap.size + 1 + 1 + 1),1,none⟩ (.slice p8 (Z.length + 1) c8)).heap.size := by simpa [World.setCell] using HSz8.out
         generalize w8.setCell ⟨(w.heap.size + 1 + 1 + 1),1,none⟩ (.slice p8 (Z.length + 1) c8) = w9 at *
         go_wp2_with fail
         go_roundw
         case rel => exact ⟨j + 1,Z ++ [(W[j],Value.slice q1 xl d1)],.slice p8 (Z.length + 1) c8,hj1,by go_num,⟨HY2.out _,HLe2.out⟩,hN,⟨hXi,hXw,hXr,hZ⟩,hSz9,hB⟩
         case measure => simp [intOf]; omega
        ·have HN2:Hid (Z.map Prod.fst = belL (W.take (j + 1)) n) := HNo.out hx
         have hx':n ≤ xn := by omega
         clear HY HNo hx
         go_wp2_with fail
         go_quiet (fail)
         have hdr:Below wr.heap.size wr (wr.drewN nq) := below_drewN (Below.refl _ _) _
         have HX1:Hid (Box (wr.drewN nq) w.heap.size #[.int .i64 tx,.slice (some ⟨b,o,none⟩) W.length c] 75 ∧ Box (wr.drewN nq) (w.heap.size + 1) #[.int .i64 n,.bool true,.slice q 0 d] 38 ∧ Box (wr.drewN nq) (w.heap.size + 1 + 1) #[.int .i64 0,.slice none 0 0] 75 ∧ Box (wr.drewN nq) (w.heap.size + 1 + 1 + 1) #[.int .i64 tx,(.slice pv Z.length cv)] 75) := ⟨HX.out.1.on hdr,HX.out.2.1.on hdr,HX.out.2.2.1.on hdr,HX.out.2.2.2.on hdr⟩
         have hO1:Hid (HasRb (wr.drewN nq) (w.heap.size + 4) w.heap.size (.slice pv Z.length cv) Z) := hO.out.kept hdr hn.size
         have HSz1:Hid (w.heap.size + 4 ≤ (wr.drewN nq).heap.size) := Nat.le_trans HSz.out hdr.size
         have hn1:Below w.heap.size w (wr.drewN nq) := below_drewN hn _
         have a0 := (hdr.cell (p := ⟨b,o + j * 3,none⟩) (Nat.lt_of_lt_of_le hbB hn.size)).trans a0
         have a1 := (hdr.cell (p := ⟨b,o + j * 3 + 1,none⟩) (Nat.lt_of_lt_of_le hbB hn.size)).trans a1
         have a2 := (hdr.cell (p := ⟨b,o + j * 3 + 2,none⟩) (Nat.lt_of_lt_of_le hbB hn.size)).trans a2
         clear x0 x1 x2 x3 u0 u1 u2 r0 r1 r2 r3 y0 y1 y2 y3 hO HX HSz hn hdr
         generalize wr.drewN nq = wr2 at *
         obtain ⟨x0,x1,x2,x3⟩ := box2 HX1.out.1
         obtain ⟨⟨u0,u1,u2⟩,_⟩ := box3 HX1.out.2.1
         go_wp2_with fail
         go_quiet (fail)
         have hdr:Below wr2.heap.size wr2 (wr2.drewN nq) := below_drewN (Below.refl _ _) _
         have HX2:Hid (Box (wr2.drewN nq) w.heap.size #[.int .i64 tx,.slice (some ⟨b,o,none⟩) W.length c] 75 ∧ Box (wr2.drewN nq) (w.heap.size + 1) #[.int .i64 n,.bool true,.slice q 0 d] 38 ∧ Box (wr2.drewN nq) (w.heap.size + 1 + 1) #[.int .i64 0,.slice none 0 0] 75 ∧ Box (wr2.drewN nq) (w.heap.size + 1 + 1 + 1) #[.int .i64 tx,(.slice pv Z.length cv)] 75) := ⟨HX1.out.1.on hdr,HX1.out.2.1.on hdr,HX1.out.2.2.1.on hdr,HX1.out.2.2.2.on hdr⟩
         have hO2:Hid (HasRb (wr2.drewN nq) (w.heap.size + 4) w.heap.size (.slice pv Z.length cv) Z) := hO1.out.kept hdr hn1.size
         have HSz2:Hid (w.heap.size + 4 ≤ (wr2.drewN nq).heap.size) := Nat.le_trans HSz1.out hdr.size
         have hn2:Below w.heap.size w (wr2.drewN nq) := below_drewN hn1 _
         have a0 := (hdr.cell (p := ⟨b,o + j * 3,none⟩) (Nat.lt_of_lt_of_le hbB hn1.size)).trans a0
         have a1 := (hdr.cell (p := ⟨b,o + j * 3 + 1,none⟩) (Nat.lt_of_lt_of_le hbB hn1.size)).trans a1
         have a2 := (hdr.cell (p := ⟨b,o + j * 3 + 2,none⟩) (Nat.lt_of_lt_of_le hbB hn1.size)).trans a2
         clear x0 x1 x2 x3 u0 u1 u2 hO1 HX1 HSz1 hn1 hdr
         generalize wr2.drewN nq = wr3 at *
         have hbw:b < wr3.drew.heap.size := Nat.lt_of_lt_of_le hbB hn2.size
         go_wp2_with fail
         go_roundw
         case rel => exact ⟨j + 1,Z,_,hj1,by go_num,⟨HN2.out,HLe2.out⟩,hO2,HX2,HSz2,hn2⟩
         case measure => simp [intOf]; omega

end Go.Proofs.YtcibcfghkidncaaGreatDoor
