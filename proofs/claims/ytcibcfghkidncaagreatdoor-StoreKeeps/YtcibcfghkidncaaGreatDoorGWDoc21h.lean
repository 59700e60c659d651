/- The document's store: Write. The document's store: Write. The walk of the document's See. The document's store: Read. -/
import Derived.Test.YtcibcfghkidncaaGreatDoorGWDoc19
import Derived.Test.YtcibcfghkidncaaGreatDoorGWIns8
import Derived.Test.YtcibcfghkidncaaGreatDoorGWCpy
namespace Go.Proofs.YtcibcfghkidncaaGreatDoor
open Go.RowKit Go.Lib
set_option maxRecDepth 100000

theorem slM_set {M:List Rs} {x:Nat} {r r':Rs} (hx:M[x]? = some r) (h:thr r = thr r'):slM (M.set x r') = slM M := by
 unfold slM
 rw [List.length_set]
 apply List.filter_congr
 intro j _
 unfold thrAt
 by_cases e:j = x
 ·subst e
  rw [List.getElem?_set_self (List.getElem?_eq_some_iff.1 hx).1,hx]
  exact h.symm
 ·rw [List.getElem?_set_ne (fun h => e h.symm)]
theorem docL_get {M:List Rs} {i:Nat} {q:Nat × Rs} (h:(docL M)[i]? = some q):(slM M)[i]? = some q.1 ∧ M[q.1]? = some q.2 ∧ thr q.2 = true := by
 unfold docL at h
 rw [List.getElem?_map] at h
 cases e:(slM M)[i]? with
 | none => rw [e] at h; cases h
 | some x =>
  rw [e] at h
  simp only [Option.map_some,Option.some.injEq] at h
  subst h
  obtain ⟨r,hr,ht⟩ := mem_slM.1 (List.mem_of_getElem? e)
  have hd:M.getD x nilR = r := by rw [List.getD_eq_getElem?_getD,hr]; rfl
  exact ⟨rfl,by rw [show (x,M.getD x nilR).2 = r from hd]; exact hr,by rw [show (x,M.getD x nilR).2 = r from hd]; exact ht⟩
theorem docL_set {M:List Rs} {i:Nat} {q:Nat × Rs} {r':Rs} (h:(docL M)[i]? = some q) (hr':thr r' = true):docL (M.set q.1 r') = (docL M).set i (q.1,r') := by
 obtain ⟨h1,h2,h3⟩ := docL_get h
 have hlt := (List.getElem?_eq_some_iff.1 h2).1
 have hi := (List.getElem?_eq_some_iff.1 h).1
 apply List.ext_getElem?
 intro j
 have e1:docL (M.set q.1 r') = (slM M).map fun x => (x,(M.set q.1 r').getD x nilR) := by
  unfold docL
  rw [slM_set h2 (by rw [h3,hr'])]
 rw [e1,List.getElem?_map]
 by_cases e:j = i
 ·subst e
  rw [List.getElem?_set_self hi,h1]
  simp [List.getD_eq_getElem?_getD,List.getElem?_set_self hlt]
 ·rw [List.getElem?_set_ne (fun h => e h.symm)]
  unfold docL
  rw [List.getElem?_map]
  cases hy:(slM M)[j]? with
  | none => rfl
  | some y =>
   have hne:q.1 ≠ y := by
    intro hqy
    obtain ⟨a1,a2⟩ := List.getElem?_eq_some_iff.1 h1
    obtain ⟨b1,b2⟩ := List.getElem?_eq_some_iff.1 hy
    exact e ((List.getElem_inj (slM_nodup M)).1 (b2.trans (hqy.symm.trans a2.symm)))
   simp [List.getD_eq_getElem?_getD,List.getElem?_set_ne hne]
theorem DocS.frm {w w':World} {B:Nat} {v:Value} {L:List (Nat × Rs)} {F:Nat → Prop} (h:DocS w B v L) (hf:Frm w w' F) (hi:ImV w w') (hF:∀ g,v.ownBlock = some g → ¬ F g):DocS w' B v L := by
 obtain ⟨Z,e,ho,hz⟩ := h
 exact ⟨Z,e,owns_frm ho hf hF,fun z hm => ⟨(hz z hm).1.imv hi,(hz z hm).2.imv hi⟩⟩
theorem newr_at {rL rW:List Rw} {tx sn:Int} (h:0 < rL.length):newr ⟨rL,tx,rW⟩ sn = decide (sn < rL[0].n) := by
 cases rL with
 | nil => simp at h
 | cons a l => rfl
theorem ret2 {w wq:World} {br:Nat} {p:Option Addr} {n c:Nat} {a0:Int} (hb:Below w.heap.size w wq) (hr:Box wq br #[.int .i64 a0,.slice p n c] 29) (hbr:w.heap.size ≤ br) (a:Int) (u:Value):((wq.setCell ⟨br,0,none⟩ (.int .i64 a)).setCell ⟨br,1,none⟩ u).cell? ⟨br,0,none⟩ = some (.int .i64 a) ∧ ((wq.setCell ⟨br,0,none⟩ (.int .i64 a)).setCell ⟨br,1,none⟩ u).cell? ⟨br,1,none⟩ = some u ∧ Below w.heap.size w ((wq.setCell ⟨br,0,none⟩ (.int .i64 a)).setCell ⟨br,1,none⟩ u) ∧ Frm wq ((wq.setCell ⟨br,0,none⟩ (.int .i64 a)).setCell ⟨br,1,none⟩ u) (one1 br) ∧ ImV wq ((wq.setCell ⟨br,0,none⟩ (.int .i64 a)).setCell ⟨br,1,none⟩ u) := by
 have h1 := hr.set (i := 0) (.int .i64 a)
 have h2 := h1.set (i := 1) u
 have hF1 := frm_set wq br 0 (.int .i64 a) (F := one1 br) (.inl rfl)
 have hF2 := frm_set (wq.setCell ⟨br,0,none⟩ (.int .i64 a)) br 1 u (F := one1 br) (.inl rfl)
 have hF := hF1.trans hF2 (fun k hk => .inl hk)
 exact ⟨box_cell h2 rfl,box_cell h2 rfl,hb.trans (hF.below hb.size (fun j hj => by rw [show j = br from hj]; exact hbr)),hF,(ImV.set (i := 0) (x := .int .i64 a) hr (pln2 _ _ _ _ _)).trans (ImV.set (i := 1) (x := u) h1 (pln2 _ _ _ _ _))⟩
theorem int_int {w:World} {g:Nat} {tx:Int} {pw:Option Addr} {nw cw:Nat} {T:TypeId} (h:Box w g #[.int .i64 tx,.slice pw nw cw] T) (t':Int) (q':Option Addr) (n' c':Nat) :
  Box ((w.setCell ⟨g,0,none⟩ (.int .i64 t')).setCell ⟨g,1,none⟩ (.slice q' n' c')) g #[.int .i64 t',.slice q' n' c'] T ∧ ImV w ((w.setCell ⟨g,0,none⟩ (.int .i64 t')).setCell ⟨g,1,none⟩ (.slice q' n' c')) ∧ Frm w ((w.setCell ⟨g,0,none⟩ (.int .i64 t')).setCell ⟨g,1,none⟩ (.slice q' n' c')) (one1 g) := by
 have h1 := h.set (i := 0) (.int .i64 t')
 have h2 := h1.set (i := 1) (.slice q' n' c')
 exact ⟨h2,(ImV.set h (pln2 ..)).trans (ImV.set h1 (pln2 _ t' pw nw cw)),(frm_set w g 0 _ (F := one1 g) (.inl rfl)).trans (frm_set _ g 1 _ (F := one1 g) (.inl rfl)) (fun k hk => .inl hk)⟩
structure WB (w wq:World) (most:Nat) (sv:Value) (vn:Int) (vg:Bool) (qv:Option Addr) (nv cv:Nat):Prop where
 bel:Below w.heap.size w wq
 s:Box wq w.heap.size #[.int .i64 (most:Nat),sv] 29
 x:Box wq (w.heap.size + 1) #[.int .i64 vn,.bool vg,.slice qv nv cv] 38
 r:Box wq (w.heap.size + 1 + 1) #[.int .i64 0,.slice none 0 0] 29
 hB:w.heap.size + 3 ≤ wq.heap.size
section
variable {w wq w':World} {most:Nat} {sv:Value} {vn:Int} {vg:Bool} {qv:Option Addr} {nv cv:Nat}
theorem WB.on (h:WB w wq most sv vn vg qv nv cv) (hb:Below wq.heap.size wq w'):WB w w' most sv vn vg qv nv cv := ⟨h.bel.trans (hb.mono h.bel.size),h.s.on hb,h.x.on hb,h.r.on hb,Nat.le_trans h.hB hb.size⟩
theorem WB.frm {k:Nat} (h:WB w wq most sv vn vg qv nv cv) (hf:Frm wq w' (one1 k)) (hk:w.heap.size + 3 ≤ k):WB w w' most sv vn vg qv nv cv := by
 refine ⟨h.bel.trans (hf.below h.bel.size (fun j hj => by rw [show j = k from hj]; omega)),h.s.frm hf (fun e => ?_),h.x.frm hf (fun e => ?_),h.r.frm hf (fun e => ?_),Nat.le_trans h.hB hf.size⟩
 ·have:w.heap.size = k := e; omega
 ·have:w.heap.size + 1 = k := e; omega
 ·have:w.heap.size + 1 + 1 = k := e; omega
theorem WB.cells (h:WB w wq most sv vn vg qv nv cv):wq.cell? ⟨w.heap.size,0,none⟩ = some (.int .i64 (most:Nat)) ∧ wq.cell? ⟨w.heap.size,1,none⟩ = some sv ∧ (wq.cell? ⟨w.heap.size + 1,0,none⟩ = some (.int .i64 vn) ∧ wq.cell? ⟨w.heap.size + 1,1,none⟩ = some (.bool vg) ∧ wq.cell? ⟨w.heap.size + 1,2,none⟩ = some (.slice qv nv cv)) ∧ wq.frozen? ⟨w.heap.size + 1 + 1,0,none⟩ = false ∧ wq.frozen? ⟨w.heap.size + 1 + 1,1,none⟩ = false ∧ wq.cell? ⟨w.heap.size + 1 + 1,0,none⟩ = some (.int .i64 0) ∧ wq.cell? ⟨w.heap.size + 1 + 1,1,none⟩ = some (.slice none 0 0) :=
 ⟨box_cell h.s rfl,box_cell h.s rfl,⟨box_cell h.x rfl,box_cell h.x rfl,box_cell h.x rfl⟩,box_frz h.r _,box_frz h.r _,box_cell h.r rfl,box_cell h.r rfl⟩
end
theorem DocS.row {w wq:World} {B0 n c:Nat} {p:Option Addr} {L:List (Nat × Rs)} {j:Nat} (hD:DocS w B0 (.slice p n c) L) (hb:Below w.heap.size w wq) (hj:j < L.length) {k:Nat} {rL rW:List Rw} {tx:Int} (hq:L[j] = (k,⟨rL,tx,rW⟩)):∃ g pl cl pw cw,p = some ⟨g,0,none⟩ ∧ (wq.cell? ⟨g,j * 4,none⟩ = some (.int .i64 (k:Nat)) ∧ wq.cell? ⟨g,j * 4 + 1,none⟩ = some (.slice pl rL.length cl) ∧ wq.cell? ⟨g,j * 4 + 2,none⟩ = some (.int .i64 tx) ∧ wq.cell? ⟨g,j * 4 + 3,none⟩ = some (.slice pw rW.length cw)) ∧ SlR .u64 wq (.slice pl rL.length cl) rL ∧ SlR .i64 wq (.slice pw rW.length cw) rW := by
 obtain ⟨g,c',vl,vw,e,hg,a0,a1,a2,a3,a4,a5⟩ := hD.at hj
 injection e with e1 e2 e3
 have hi := Imm.of_below hb
 have kk:∀ (m:Nat) (v:Option Value),w.cell? ⟨g,m,none⟩ = v → wq.cell? ⟨g,m,none⟩ = v := fun m v hc => (hb.cell (p := ⟨g,m,none⟩) hg).trans hc
 rw [hq] at a0 a2 a4 a5
 have b4 := a4.imm hi
 have b5 := a5.imm hi
 obtain ⟨pl,cl,rfl,_⟩ := a4
 obtain ⟨pw,cw,rfl,_⟩ := a5
 exact ⟨g,pl,cl,pw,cw,e1,⟨kk _ _ a0,kk _ _ a1,kk _ _ a2,kk _ _ a3⟩,b4,b5⟩
theorem WB.start (w:World) (most:Nat) (sv:Value) (vn:Int) (vg:Bool) (qv:Option Addr) (nv cv:Nat):WB w (((w.alloc (.cells #[.int .i64 (most:Nat),sv] 29)).alloc (.cells #[.int .i64 vn,.bool vg,.slice qv nv cv] 38)).alloc (.cells #[.int .i64 0,.slice none 0 0] 29)) most sv vn vg qv nv cv := by
 obtain ⟨a1,a2,a3,a4⟩ := two_new w #[.int .i64 (most:Nat),sv] #[.int .i64 vn,.bool vg,.slice qv nv cv] 29 38
 obtain ⟨b1,b2,b3⟩ := one_new ((w.alloc (.cells #[.int .i64 (most:Nat),sv] 29)).alloc (.cells #[.int .i64 vn,.bool vg,.slice qv nv cv] 38)) #[.int .i64 0,.slice none 0 0] 29
 rw [a4] at b1
 exact ⟨a3.trans (b2.mono a3.size),a1.on b2,a2.on b2,b1,by rw [b3,a4]; exact Nat.le_refl _⟩

end Go.Proofs.YtcibcfghkidncaaGreatDoor

namespace Go.Proofs.YtcibcfghkidncaaGreatDoor
open Go.RowKit Go.Lib
set_option maxRecDepth 100000

set_option maxHeartbeats 8000000 in
theorem writeD_any (B most J:Nat) (v:Value) (M:List Rs) (sl txn vn:Int) (vg:Bool) (vr:List Vl) (qv:Option Addr) (cv:Nat) (sn:Int) (w:World) (h:DocS w B v (docL M)) (hB:B ≤ w.heap.size) (hM:∀ r ∈ M,OkR J r) (hl:(docL M).length ≤ 65536) (hJ:J + 1 ≤ 3518437208882) (hV:SlV w w.heap.size (.slice qv vr.length cv) vr) :
  Calls Tryz.prog 35 #[.agg #[.int .i64 (most:Nat),v],.int .i64 sl,.int .i64 txn,.agg #[.int .i64 vn,.bool vg,.slice qv vr.length cv],.int .u64 sn] w fun e w' => (∃ v',e = .returned (.tuple #[.agg #[.int .i64 (most:Nat),v'],.int .i64 (wriE (getR M sl) txn ⟨vn,vg,vr⟩ sn)]) ∧ DocS w' B v' (docL (wrtM M sl txn ⟨vn,vg,vr⟩ sn))) ∧ Below w.heap.size w w' := by
 obtain ⟨p,c,rfl,_⟩ := h.len
 have HV:Hid (SlV w w.heap.size (.slice qv vr.length cv) vr) := hV
 have H0 := WB.start w most (.slice p (docL M).length c) vn vg qv vr.length cv
 have C1:Hid (Calls _ _ _ _ _) := find_any B most (.slice p (docL M).length c) (docL M) sl _ (h.on H0.bel) hl
 have HB0:Hid (WB _ _ _ _ _ _ _ _ _) := H0
 have HD:Hid (DocS w B (.slice p (docL M).length c) (docL M)) := h
 have HM:Hid (∀ r ∈ M,OkR J r) := hM
 clear h hV hM H0
 obtain ⟨n,hn⟩:∃ n,(docL M).length = n := ⟨_,rfl⟩
 rw [hn] at HD HB0 C1 hl
 rw [hn]
 have HN:Hid ((docL M).length = n) := hn
 clear hn
 obtain ⟨nv,hnv⟩:∃ nv,vr.length = nv := ⟨_,rfl⟩
 rw [hnv] at HB0 C1
 rw [hnv]
 have HNv:Hid (vr.length = nv) := hnv
 clear hnv
 go_enter Tryz.func35,Tryz.ntmps35
 go_upto_region 1 with fail
 generalize (((w.alloc (.cells #[.int .i64 (most:Nat),.slice p n c] 29)).alloc (.cells #[.int .i64 vn,.bool vg,.slice qv nv cv] 38)).alloc (.cells #[.int .i64 0,.slice none 0 0] 29)) = w0 at *
 obtain ⟨q0,q1,_⟩ := HB0.out.cells
 go_wp2_with fail
 refine C1.out.mono ?_
 rintro e w1 ⟨⟨r,rfl,hr⟩,hb1⟩
 have HB1:Hid (WB _ _ _ _ _ _ _ _ _) := HB0.out.on hb1
 clear C1 HB0 hb1 q0 q1
 rcases hr with ⟨rfl,hno⟩ | ⟨i,q,hq,rfl,hqs⟩
 ·have HE:Hid (wriE (getR M sl) txn ⟨vn,vg,vr⟩ sn = 110) := by
   show wriE _ _ _ _ = _
   unfold wriE
   rw [if_pos (docL_no hno)]
  clear hno
  obtain ⟨q0,q1,⟨q2,q3,q4⟩,q5,q6,q7,q8⟩ := HB1.out.cells
  go_wp2_with fail
  obtain ⟨f0,f1,fb,_⟩ := ret2 HB1.out.bel HB1.out.r (by omega) (most:Nat) (.slice p n c)
  generalize (w1.setCell ⟨w.heap.size + 1 + 1,0,none⟩ (.int .i64 (most:Nat))).setCell ⟨w.heap.size + 1 + 1,1,none⟩ (.slice p n c) = w9 at *
  (try simp only [Exit.inBlock,Exit.then])
  refine bodyPost_ret (v := .tuple #[.agg #[.int .i64 (most:Nat),(.slice p n c)],.int .i64 110]) (by simp [results,Tryz.results35,go_sem,f0,f1]) rfl ?_
  exact ⟨⟨_,by rw [HE.out],by rw [wrtM,if_neg (by rw [HE.out]; decide)]; exact HD.out.on fb⟩,fb⟩
 ·obtain ⟨k,rL,tx,rW⟩ := q
  have HQ:Hid ((docL M)[i]? = some (k,⟨rL,tx,rW⟩)) := hq
  obtain ⟨hi,he⟩ := List.getElem?_eq_some_iff.1 hq
  have hgr := docL_at hq
  have HG:Hid (getR M sl = ⟨rL,tx,rW⟩) := by
   show getR M sl = _
   rw [← hqs]
   exact hgr.1.symm
  have HGk:Hid (sl.toNat = k ∧ getR M sl = ⟨rL,tx,rW⟩) := ⟨by have h9:(k:Int) = sl := hqs; omega,HG.out⟩
  have HR:Hid (OkR J ⟨rL,tx,rW⟩ ∧ thr ⟨rL,tx,rW⟩ = true) := ⟨HM.out _ (docL_mem (List.mem_of_getElem? hq)).1,hgr.2⟩
  obtain ⟨g,pl,cl,pw,cw,e,⟨a0,a1,a2,a3⟩,SL,SW⟩ := HD.out.row HB1.out.bel hi he
  subst e
  have hin:i < n := by rw [← HN.out]; exact hi
  have HIn:Hid (i < n) := hin
  have HDn:Hid (DocS w B (.slice (some ⟨g,0,none⟩) n c) (docL M)) := HD.out
  clear hq hi he hgr hqs
  obtain ⟨c1,c2,c3,c4⟩ := two_new w1 #[.int .i64 (k:Nat),.slice pl rL.length cl,.int .i64 tx,.slice pw rW.length cw] #[.int .i64 txn,.slice none 0 0] 77 75
  have HB2:Hid (WB _ _ _ _ _ _ _ _ _) := HB1.out.on c3
  have HX2:Hid (Box _ _ _ _) := c1
  have HI2:Hid (Box _ _ _ _) := c2
  have SL2:Hid (SlR .u64 _ _ _) := SL.imm (Imm.of_below c3)
  have SW2:Hid (SlR .i64 _ _ _) := SW.imm (Imm.of_below c3)
  have HBx:Hid (w.heap.size + 3 ≤ w1.heap.size ∧ w.heap.size + 3 ≤ w1.heap.size + 1) := ⟨HB1.out.hB,by have := HB1.out.hB; omega⟩
  obtain ⟨nl,hnl⟩:∃ nl,rL.length = nl := ⟨_,rfl⟩
  obtain ⟨nw,hnw⟩:∃ nw,rW.length = nw := ⟨_,rfl⟩
  rw [hnl,hnw] at HB2 HX2 HI2 SL2 SW2
  rw [hnl] at a1
  rw [hnw] at a3
  have HNl:Hid (rL.length = nl) := hnl
  have HNw:Hid (rW.length = nw) := hnw
  obtain ⟨q0,q1,_⟩ := HB1.out.cells
  clear hnl hnw c1 c2 c3 c4 SL SW
  go_upto_region 6 with fail
  generalize ((w1.alloc (.cells #[.int .i64 (k:Nat),.slice pl nl cl,.int .i64 tx,.slice pw nw cw] 77)).alloc (.cells #[.int .i64 txn,.slice none 0 0] 75)) = w2 at *
  clear q0 q1 a0 a1 a2 a3 HB1
  obtain ⟨⟨x0,x1,x2,x3⟩,y1,y2,y3⟩ := box4 HX2.out
  obtain ⟨i0,i1,i2,i3⟩ := box2 HI2.out
  by_cases ht:tx = txn
  ·subst ht
   go_upto_region 8 with fail
   obtain ⟨b1,b2,b3⟩ := int_int HI2.out tx pw nw cw
   have HB3:Hid (WB _ _ _ _ _ _ _ _ _) := HB2.out.frm b3 HBx.out.2
   have HX3:Hid (Box _ _ _ _) := HX2.out.frm b3 (fun e => by have h9:w1.heap.size = w1.heap.size + 1 := e; omega)
   have HI3:Hid (Box _ _ _ _) := b1
   have SL3:Hid (SlR .u64 _ _ _) := SL2.out.imv b2
   have SW3:Hid (SlR .i64 _ _ _) := SW2.out.imv b2
   clear b1 b2 b3 HB2 HX2 HI2 SL2 SW2 x0 x1 x2 x3 y1 y2 y3 i0 i1 i2 i3
   generalize (w2.setCell ⟨w1.heap.size + 1,0,none⟩ (.int .i64 tx)).setCell ⟨w1.heap.size + 1,1,none⟩ (.slice pw nw cw) = w3 at *
   have C2:Hid (Calls _ _ _ _ _) := rput_any rW pw cw tx vn vg vr qv cv w3 SW3.out.rd (HV.out.imm (Imm.of_below HB3.out.bel)) (by have h1 := HR.out.1.nW; have h2:rW.length ≤ J := h1; omega)
   rw [HNv.out,HNw.out] at C2
   obtain ⟨q0,q1,⟨q2,q3,q4⟩,q5,q6,q7,q8⟩ := HB3.out.cells
   obtain ⟨i0,i1,_,_⟩ := box2 HI3.out
   go_wp2_with fail
   refine C2.out.mono ?_
   rintro e w4 ⟨⟨vz,Zz,rfl,hZ,hH⟩,hb4⟩
   obtain ⟨pz,cz,rfl,_,hrz⟩ := hH.rd hb4.size hZ
   have HB4 := HB3.out.on hb4
   have HX4 := HX3.out.on hb4
   have SL4 := SL3.out.imm (Imm.of_below hb4)
   clear C2 hZ hH q0 q1 q2 q3 q4 q5 q6 q7 q8 i0 i1
   obtain ⟨bN,bB,bS⟩ := one_new w4 #[.int .i64 (putT tx rW ⟨vn,vg,vr⟩),.slice pz (putL tx rW ⟨vn,vg,vr⟩).length cz] 75
   have HB5:Hid (WB _ _ _ _ _ _ _ _ _) := HB4.on bB
   have HX5:Hid (Box _ _ _ _) := HX4.on bB
   have HN5:Hid (Box _ _ _ _) := bN
   have SL5:Hid (SlR .u64 _ _ _) := SL4.imm (Imm.of_below bB)
   have SZ5:Hid (SlR .i64 _ (.slice pz (putL tx rW ⟨vn,vg,vr⟩).length cz) (putL tx rW ⟨vn,vg,vr⟩)) := SlR.imm (w := w4) ⟨pz,cz,rfl,hrz,fun h => by cases h⟩ (Imm.of_below bB)
   clear bN bB bS HB4 HX4 SL4 hrz hb4
   obtain ⟨nz,hnz⟩:∃ nz,(putL tx rW ⟨vn,vg,vr⟩).length = nz := ⟨_,rfl⟩
   rw [hnz] at HB5 HX5 HN5 SL5 SZ5
   have HZn:Hid ((putL tx rW ⟨vn,vg,vr⟩).length = nz) := hnz
   rw [hnz]
   clear hnz
   have hWr:wrW ⟨rL,tx,rW⟩ tx = rW := by unfold wrW; rw [if_pos rfl]
   cases hp:putB tx rW ⟨vn,vg,vr⟩ with
   | true =>
    obtain ⟨e1,e2,e3⟩ := put_bad hp
    have HE:Hid (wriE (getR M sl) tx ⟨vn,vg,vr⟩ sn = 1) := by
     show wriE _ _ _ _ = _
     unfold wriE
     rw [HG.out,HR.out.2,if_neg (by decide),hWr,if_pos hp]
    rw [e1,e2]
    rw [e2] at HB5 HX5 HN5 SL5 SZ5
    clear e1 e2 e3 hp
    go_upto_region 9 with fail
    generalize (w4.alloc (.cells #[.int .i64 0,.slice pz nz cz] 75)) = w5 at *
    obtain ⟨q0,q1,⟨q2,q3,q4⟩,q5,q6,q7,q8⟩ := HB5.out.cells
    go_wp2_with fail
    obtain ⟨f0,f1,fb,_⟩ := ret2 HB5.out.bel HB5.out.r (by omega) (most:Nat) (.slice (some ⟨g,0,none⟩) n c)
    generalize (w5.setCell ⟨w.heap.size + 1 + 1,0,none⟩ (.int .i64 (most:Nat))).setCell ⟨w.heap.size + 1 + 1,1,none⟩ (.slice (some ⟨g,0,none⟩) n c) = w9 at *
    (try simp only [Exit.inBlock,Exit.then])
    refine bodyPost_ret (v := .tuple #[.agg #[.int .i64 (most:Nat),(.slice (some ⟨g,0,none⟩) n c)],.int .i64 1]) (by simp [results,Tryz.results35,go_sem,f0,f1]) rfl ?_
    exact ⟨⟨_,by rw [HE.out],by rw [wrtM,if_neg (by rw [HE.out]; decide)]; exact HD.out.on fb⟩,fb⟩
   | false =>
    obtain ⟨e1,e2,e3⟩ := put_ok hp
    have ht1:1 ≤ tx := by
     simp only [putB,Bool.or_eq_false_iff,decide_eq_false_iff_not] at hp
     omega
    have hw0:0 < nw := by
     rw [← HNw.out]
     rcases Nat.eq_zero_or_pos rW.length with e | e
     ·have h9:tx = 0 := HR.out.1.tx0.2 (List.eq_nil_of_length_eq_zero e)
      omega
     ·exact e
    have HTn:Hid (tx ≠ 0) := by show tx ≠ 0; omega
    have HZp:Hid (0 < nz) := by
     show 0 < nz
     rw [← HZn.out,e3]
     simp
    have HE:Hid (wriE (getR M sl) tx ⟨vn,vg,vr⟩ sn = 0) := by
     show wriE _ _ _ _ = _
     unfold wriE
     rw [HG.out,HR.out.2,if_neg (by decide),hWr,hp,if_neg (by decide),if_neg (fun h => h.2 rfl),if_neg (fun h => HTn.out h.1)]
    rw [e1,e2]
    rw [e2] at HB5 HX5 HN5 SL5 SZ5
    rw [← hWr] at SZ5 HZn
    clear e1 e2 e3 hp ht1 hWr
    go_upto_region 9 with fail
    generalize (w4.alloc (.cells #[.int .i64 tx,.slice pz nz cz] 75)) = w5 at *
    obtain ⟨q0,q1,⟨q2,q3,q4⟩,q5,q6,q7,q8⟩ := HB5.out.cells
    obtain ⟨⟨x0,x1,x2,x3⟩,y1,y2,y3⟩ := box4 HX5.out
    obtain ⟨z0,z1,_,_⟩ := box2 HN5.out
    have hi2 := HIn.out
    go_upto_region 16 with fail
    obtain ⟨b1,b2,b3⟩ := row_int HX5.out tx pz nz cz
    have HB6:Hid (WB _ _ _ _ _ _ _ _ _) := HB5.out.frm b3 HBx.out.1
    have SL6 := SL5.out.imv b2
    have SZ6 := SZ5.out.imv b2
    have HX6:Hid (Box _ _ _ _) := b1
    have C3:Hid (Calls _ _ _ _ _) := withD_any B most _ (docL M) i k rL (putL tx (wrW ⟨rL,tx,rW⟩ tx) ⟨vn,vg,vr⟩) tx pl pz cl cz _ (HDn.out.on HB6.out.bel) (by rw [HN.out]; exact hl) (by rw [HN.out]; exact hi2) (by rw [HNl.out]; exact SL6) (by rw [HZn.out]; exact SZ6) (by rw [HZn.out]; exact HZp.out)
    rw [HZn.out,HNl.out] at C3
    clear SL6 SZ6 b1 b2 b3
    generalize (w5.setCell ⟨w1.heap.size,2,none⟩ (.int .i64 tx)).setCell ⟨w1.heap.size,3,none⟩ (.slice pz nz cz) = w6 at *
    clear q0 q1 q2 q3 q4 q5 q6 q7 q8 x0 x1 x2 x3 y1 y2 y3 z0 z1
    obtain ⟨⟨x0,x1,x2,x3⟩,_⟩ := box4 HX6.out
    obtain ⟨q0,q1,⟨q2,q3,q4⟩,q5,q6,q7,q8⟩ := HB6.out.cells
    go_wp2_with fail
    refine C3.out.mono ?_
    rintro e w7 ⟨⟨v7,rfl,hd7⟩,hb7⟩
    have HB7:Hid (WB _ _ _ _ _ _ _ _ _) := HB6.out.on hb7
    have HD7:Hid (DocS _ _ _ _) := hd7
    obtain ⟨p7,n7,c7,e7⟩:∃ p7 n7 c7,v7 = .slice p7 n7 c7 := by obtain ⟨p7,c7,e7,_⟩ := hd7.len; exact ⟨p7,_,c7,e7⟩
    subst e7
    clear hd7 hb7 C3 q0 q1 q2 q3 q4 q5 q6 q7 q8 x0 x1 x2 x3
    obtain ⟨q0,q1,⟨q2,q3,q4⟩,q5,q6,q7,q8⟩ := HB7.out.cells
    go_wp2_with fail
    obtain ⟨f0,f1,fb,ff,fi⟩ := ret2 HB7.out.bel HB7.out.r (by omega) (most:Nat) (.slice p7 n7 c7)
    have hd9 := HD7.out.frm ff fi (fun g9 hg9 e9 => by have h1 := (HD7.out.lt g9 hg9).1; have h2 := HB6.out.hB; have h3:g9 = w.heap.size + 1 + 1 := e9; omega)
    have hB9:B ≤ w6.heap.size := Nat.le_trans hB HB6.out.bel.size
    generalize (w7.setCell ⟨w.heap.size + 1 + 1,0,none⟩ (.int .i64 (most:Nat))).setCell ⟨w.heap.size + 1 + 1,1,none⟩ (.slice p7 n7 c7) = w9 at *
    (try simp only [Exit.inBlock,Exit.then])
    refine bodyPost_ret (v := .tuple #[.agg #[.int .i64 (most:Nat),.slice p7 n7 c7],.int .i64 0]) (by simp [results,Tryz.results35,go_sem,f0,f1]) rfl ?_
    refine ⟨⟨_,by rw [HE.out],?_⟩,fb⟩
    rw [wrtM,if_pos HE.out,HGk.out.1,HGk.out.2,docL_set HQ.out (tx_thr (show tx ≠ 0 from HTn.out))]
    exact hd9.base hB9
  ·have hb0:(tx == txn) = false := by simp [ht]
   go_upto_region 8 with fail
   clear x0 x1 x2 x3 y1 y2 y3 i0 i1 i2 i3 hb0
   have C2:Hid (Calls _ _ _ _ _) := rput_any [] none 0 txn vn vg vr qv cv w2 (RdR.nil _ _ _) (HV.out.imm (Imm.of_below HB2.out.bel)) (by simp)
   rw [HNv.out] at C2
   obtain ⟨q0,q1,⟨q2,q3,q4⟩,q5,q6,q7,q8⟩ := HB2.out.cells
   obtain ⟨i0,i1,_,_⟩ := box2 HI2.out
   go_wp2_with fail
   refine C2.out.mono ?_
   rintro e w4 ⟨⟨vz,Zz,rfl,hZ,hH⟩,hb4⟩
   obtain ⟨pz,cz,rfl,_,hrz⟩ := hH.rd hb4.size hZ
   have HB4 := HB2.out.on hb4
   have HX4 := HX2.out.on hb4
   have SL4 := SL2.out.imm (Imm.of_below hb4)
   clear C2 hZ hH q0 q1 q2 q3 q4 q5 q6 q7 q8 i0 i1
   obtain ⟨bN,bB,bS⟩ := one_new w4 #[.int .i64 (putT txn [] ⟨vn,vg,vr⟩),.slice pz (putL txn [] ⟨vn,vg,vr⟩).length cz] 75
   have HB5:Hid (WB _ _ _ _ _ _ _ _ _) := HB4.on bB
   have HX5:Hid (Box _ _ _ _) := HX4.on bB
   have HN5:Hid (Box _ _ _ _) := bN
   have SL5:Hid (SlR .u64 _ _ _) := SL4.imm (Imm.of_below bB)
   have SZ5:Hid (SlR .i64 _ (.slice pz (putL txn [] ⟨vn,vg,vr⟩).length cz) (putL txn [] ⟨vn,vg,vr⟩)) := SlR.imm (w := w4) ⟨pz,cz,rfl,hrz,fun h => by cases h⟩ (Imm.of_below bB)
   clear bN bB bS HB4 HX4 SL4 hrz hb4
   obtain ⟨nz,hnz⟩:∃ nz,(putL txn [] ⟨vn,vg,vr⟩).length = nz := ⟨_,rfl⟩
   rw [hnz] at HB5 HX5 HN5 SL5 SZ5
   have HZn:Hid ((putL txn [] ⟨vn,vg,vr⟩).length = nz) := hnz
   rw [hnz]
   clear hnz
   have hWr:wrW ⟨rL,tx,rW⟩ txn = [] := by unfold wrW; rw [if_neg ht]
   have hb:(tx == txn) = false := by simp [ht]
   cases hp:putB txn [] ⟨vn,vg,vr⟩ with
   | true =>
    obtain ⟨e1,e2,e3⟩ := put_bad hp
    have HE:Hid (wriE (getR M sl) txn ⟨vn,vg,vr⟩ sn = 1) := by
     show wriE _ _ _ _ = _
     unfold wriE
     rw [HG.out,HR.out.2,if_neg (by decide),hWr,if_pos hp]
    rw [e1,e2]
    rw [e2] at HB5 HX5 HN5 SL5 SZ5
    clear e1 e2 e3 hp
    go_upto_region 9 with fail
    generalize (w4.alloc (.cells #[.int .i64 0,.slice pz nz cz] 75)) = w5 at *
    obtain ⟨q0,q1,⟨q2,q3,q4⟩,q5,q6,q7,q8⟩ := HB5.out.cells
    go_wp2_with fail
    obtain ⟨f0,f1,fb,_⟩ := ret2 HB5.out.bel HB5.out.r (by omega) (most:Nat) (.slice (some ⟨g,0,none⟩) n c)
    generalize (w5.setCell ⟨w.heap.size + 1 + 1,0,none⟩ (.int .i64 (most:Nat))).setCell ⟨w.heap.size + 1 + 1,1,none⟩ (.slice (some ⟨g,0,none⟩) n c) = w9 at *
    (try simp only [Exit.inBlock,Exit.then])
    refine bodyPost_ret (v := .tuple #[.agg #[.int .i64 (most:Nat),(.slice (some ⟨g,0,none⟩) n c)],.int .i64 1]) (by simp [results,Tryz.results35,go_sem,f0,f1]) rfl ?_
    exact ⟨⟨_,by rw [HE.out],by rw [wrtM,if_neg (by rw [HE.out]; decide)]; exact HD.out.on fb⟩,fb⟩
   | false =>
    obtain ⟨e1,e2,e3⟩ := put_ok hp
    have ht1:1 ≤ txn := by
     simp only [putB,Bool.or_eq_false_iff,decide_eq_false_iff_not] at hp
     omega
    have HTn:Hid (txn ≠ 0) := by show txn ≠ 0; omega
    have HZp:Hid (0 < nz) := by
     show 0 < nz
     rw [← HZn.out,e3]
     simp
    have HE0:Hid (wriE (getR M sl) txn ⟨vn,vg,vr⟩ sn = if tx ≠ 0 ∧ tx ≠ txn then 111 else if tx = 0 ∧ newr ⟨rL,tx,rW⟩ sn = true then 112 else 0) := by
     show wriE _ _ _ _ = _
     unfold wriE
     rw [HG.out,HR.out.2,if_neg (by decide),hWr,hp,if_neg (by decide)]
    have HTx:Hid (tx ≠ txn) := ht
    rw [e1,e2]
    rw [e2] at HB5 HX5 HN5 SL5 SZ5
    rw [← hWr] at SZ5 HZn
    clear e1 e2 e3 hp ht1 hWr ht
    go_upto_region 9 with fail
    generalize (w4.alloc (.cells #[.int .i64 txn,.slice pz nz cz] 75)) = w5 at *
    rcases Nat.eq_zero_or_pos nw with e | hw0
    ·have htx0:tx = 0 := HR.out.1.tx0.2 (List.eq_nil_of_length_eq_zero (HNw.out.trans e))
     have hnl:0 < nl := by
      have h1 := HR.out.2
      rw [thr_doc HR.out.1] at h1
      have h2:(decide (0 < rL.length) || decide (0 < rW.length)) = true := h1
      rw [HNl.out,HNw.out,e] at h2
      simpa using h2
     obtain ⟨b,o,qx,cx,e9,hb9,m0,m1,m2,_,_⟩ := SL5.out.rd 0 (by rw [HNl.out]; exact hnl)
     subst e9
     have m0':w5.cell? ⟨b,o,none⟩ = some (.int .u64 (rL[0]'(by rw [HNl.out]; exact hnl)).n) := by simpa using m0
     have hnew:newr ⟨rL,tx,rW⟩ sn = decide (sn < (rL[0]'(by rw [HNl.out]; exact hnl)).n) := by
      exact newr_at (by rw [HNl.out]; exact hnl)
     clear m0 m1 m2 hb9
     generalize (rL[0]'(by rw [HNl.out]; exact hnl)).n = st0 at *
     subst e
     by_cases hst:sn < st0
     ·have HE:Hid (wriE (getR M sl) txn ⟨vn,vg,vr⟩ sn = 112) := by
       show wriE _ _ _ _ = _
       rw [HE0.out,if_neg (fun h => h.1 htx0),if_pos ⟨htx0,by rw [hnew]; exact decide_eq_true hst⟩]
      clear HE0 hnew htx0
      obtain ⟨⟨x0,x1,x2,x3⟩,y1,y2,y3⟩ := box4 HX5.out
      obtain ⟨q0,q1,⟨q2,q3,q4⟩,q5,q6,q7,q8⟩ := HB5.out.cells
      go_wp2_with fail
      obtain ⟨f0,f1,fb,_⟩ := ret2 HB5.out.bel HB5.out.r (by omega) (most:Nat) (.slice (some ⟨g,0,none⟩) n c)
      generalize (w5.setCell ⟨w.heap.size + 1 + 1,0,none⟩ (.int .i64 (most:Nat))).setCell ⟨w.heap.size + 1 + 1,1,none⟩ (.slice (some ⟨g,0,none⟩) n c) = w9 at *
      (try simp only [Exit.inBlock,Exit.then])
      refine bodyPost_ret (v := .tuple #[.agg #[.int .i64 (most:Nat),(.slice (some ⟨g,0,none⟩) n c)],.int .i64 112]) (by simp [results,Tryz.results35,go_sem,f0,f1]) rfl ?_
      exact ⟨⟨_,by rw [HE.out],by rw [wrtM,if_neg (by rw [HE.out]; decide)]; exact HD.out.on fb⟩,fb⟩
     ·have HE:Hid (wriE (getR M sl) txn ⟨vn,vg,vr⟩ sn = 0) := by
       show wriE _ _ _ _ = _
       rw [HE0.out,if_neg (fun h => h.1 htx0),if_neg (fun h => by have h2 := h.2; rw [hnew] at h2; exact hst (of_decide_eq_true h2))]
      clear HE0 hnew htx0
      obtain ⟨q0,q1,⟨q2,q3,q4⟩,q5,q6,q7,q8⟩ := HB5.out.cells
      obtain ⟨⟨x0,x1,x2,x3⟩,y1,y2,y3⟩ := box4 HX5.out
      obtain ⟨z0,z1,_,_⟩ := box2 HN5.out
      have hi2 := HIn.out
      go_upto_region 16 with fail
      obtain ⟨b1,b2,b3⟩ := row_int HX5.out txn pz nz cz
      have HB6:Hid (WB _ _ _ _ _ _ _ _ _) := HB5.out.frm b3 HBx.out.1
      have SL6 := SL5.out.imv b2
      have SZ6 := SZ5.out.imv b2
      have HX6:Hid (Box _ _ _ _) := b1
      have C3:Hid (Calls _ _ _ _ _) := withD_any B most _ (docL M) i k rL (putL txn (wrW ⟨rL,tx,rW⟩ txn) ⟨vn,vg,vr⟩) txn (some ⟨b,o,none⟩) pz cl cz _ (HDn.out.on HB6.out.bel) (by rw [HN.out]; exact hl) (by rw [HN.out]; exact hi2) (by rw [HNl.out]; exact SL6) (by rw [HZn.out]; exact SZ6) (by rw [HZn.out]; exact HZp.out)
      rw [HZn.out,HNl.out] at C3
      clear SL6 SZ6 b1 b2 b3
      generalize (w5.setCell ⟨w1.heap.size,2,none⟩ (.int .i64 txn)).setCell ⟨w1.heap.size,3,none⟩ (.slice pz nz cz) = w6 at *
      clear q0 q1 q2 q3 q4 q5 q6 q7 q8 x0 x1 x2 x3 y1 y2 y3 z0 z1
      obtain ⟨⟨x0,x1,x2,x3⟩,_⟩ := box4 HX6.out
      obtain ⟨q0,q1,⟨q2,q3,q4⟩,q5,q6,q7,q8⟩ := HB6.out.cells
      go_wp2_with fail
      refine C3.out.mono ?_
      rintro e w7 ⟨⟨v7,rfl,hd7⟩,hb7⟩
      have HB7:Hid (WB _ _ _ _ _ _ _ _ _) := HB6.out.on hb7
      have HD7:Hid (DocS _ _ _ _) := hd7
      obtain ⟨p7,n7,c7,e7⟩:∃ p7 n7 c7,v7 = .slice p7 n7 c7 := by obtain ⟨p7,c7,e7,_⟩ := hd7.len; exact ⟨p7,_,c7,e7⟩
      subst e7
      clear hd7 hb7 C3 q0 q1 q2 q3 q4 q5 q6 q7 q8 x0 x1 x2 x3
      obtain ⟨q0,q1,⟨q2,q3,q4⟩,q5,q6,q7,q8⟩ := HB7.out.cells
      go_wp2_with fail
      obtain ⟨f0,f1,fb,ff,fi⟩ := ret2 HB7.out.bel HB7.out.r (by omega) (most:Nat) (.slice p7 n7 c7)
      have hd9 := HD7.out.frm ff fi (fun g9 hg9 e9 => by have h1 := (HD7.out.lt g9 hg9).1; have h2 := HB6.out.hB; have h3:g9 = w.heap.size + 1 + 1 := e9; omega)
      have hB9:B ≤ w6.heap.size := Nat.le_trans hB HB6.out.bel.size
      generalize (w7.setCell ⟨w.heap.size + 1 + 1,0,none⟩ (.int .i64 (most:Nat))).setCell ⟨w.heap.size + 1 + 1,1,none⟩ (.slice p7 n7 c7) = w9 at *
      (try simp only [Exit.inBlock,Exit.then])
      refine bodyPost_ret (v := .tuple #[.agg #[.int .i64 (most:Nat),.slice p7 n7 c7],.int .i64 0]) (by simp [results,Tryz.results35,go_sem,f0,f1]) rfl ?_
      refine ⟨⟨_,by rw [HE.out],?_⟩,fb⟩
      rw [wrtM,if_pos HE.out,HGk.out.1,HGk.out.2,docL_set HQ.out (tx_thr (show txn ≠ 0 from HTn.out))]
      exact hd9.base hB9
    ·have htx0:tx ≠ 0 := fun e => by
      have h1:rW = [] := HR.out.1.tx0.1 e
      have h2 := HNw.out
      rw [h1] at h2
      simp at h2
      omega
     have HE:Hid (wriE (getR M sl) txn ⟨vn,vg,vr⟩ sn = 111) := by
      show wriE _ _ _ _ = _
      rw [HE0.out,if_pos ⟨htx0,HTx.out⟩]
     clear HE0 htx0
     obtain ⟨⟨x0,x1,x2,x3⟩,y1,y2,y3⟩ := box4 HX5.out
     obtain ⟨q0,q1,⟨q2,q3,q4⟩,q5,q6,q7,q8⟩ := HB5.out.cells
     go_wp2_with fail
     obtain ⟨f0,f1,fb,_⟩ := ret2 HB5.out.bel HB5.out.r (by omega) (most:Nat) (.slice (some ⟨g,0,none⟩) n c)
     generalize (w5.setCell ⟨w.heap.size + 1 + 1,0,none⟩ (.int .i64 (most:Nat))).setCell ⟨w.heap.size + 1 + 1,1,none⟩ (.slice (some ⟨g,0,none⟩) n c) = w9 at *
     (try simp only [Exit.inBlock,Exit.then])
     refine bodyPost_ret (v := .tuple #[.agg #[.int .i64 (most:Nat),(.slice (some ⟨g,0,none⟩) n c)],.int .i64 111]) (by simp [results,Tryz.results35,go_sem,f0,f1]) rfl ?_
     exact ⟨⟨_,by rw [HE.out],by rw [wrtM,if_neg (by rw [HE.out]; decide)]; exact HD.out.on fb⟩,fb⟩

end Go.Proofs.YtcibcfghkidncaaGreatDoor

namespace Go.Proofs.YtcibcfghkidncaaGreatDoor
open Go.RowKit
set_option maxRecDepth 100000

end Go.Proofs.YtcibcfghkidncaaGreatDoor

namespace Go.Proofs.YtcibcfghkidncaaGreatDoor
open Go.RowKit Go.Lib
set_option maxRecDepth 100000

end Go.Proofs.YtcibcfghkidncaaGreatDoor
