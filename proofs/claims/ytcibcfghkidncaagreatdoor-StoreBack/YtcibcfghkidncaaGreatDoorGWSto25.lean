/- A store: Add. A store: Add. A store: what is there in Back's loop. A store: Back. -/
import Derived.Test.YtcibcfghkidncaaGreatDoorGWSto22
import Derived.Test.YtcibcfghkidncaaGreatDoorGWSto14h
namespace Go.Proofs.YtcibcfghkidncaaGreatDoor
open Go.RowKit Go.Lib Go.Maps
set_option maxRecDepth 100000

set_option maxHeartbeats 8000000 in
theorem add_ok (B sb most K J:Nat) (M:List Rs) (F:Nat → Prop) (txn vn:Int) (vg:Bool) (vr:List Vl) (qv:Option Addr) (cv:Nat) (w:World) (h:Sto w B sb most M K J F) (hv:vg = false) (hV:SlV w w.heap.size (.slice qv vr.length cv) vr) (hvr:vr.length ≤ 3518437208882) (hb:putB txn [] ⟨vn,false,vr⟩ = false) (h1:-9223372036854775808 ≤ txn) (h2:txn < 9223372036854775808) (hT:Tab w) (hg : 1 < B) (s:Nat) (hs1:thrAt M s = false) (hs2:∀ j,j < s → thrAt M j = true) (hm:s < most) (hK:K + 2 ≤ 8000000000000000000) :
  Calls Tryz.prog 19 #[ptr1 sb,.int .i64 txn,.agg #[.int .i64 vn,.bool vg,.slice qv vr.length cv]] w fun e w' => e = .returned (.tuple #[.int .i64 (s:Nat),.int .i64 0]) ∧ (∃ F',Sto w' B sb most (addM M s (newR txn ⟨vn,vg,vr⟩)) (K + 2) (J + 1) F' ∧ ∀ k,F' k → F k ∨ w.heap.size ≤ k) ∧ Frm w w' F := by
 subst hv
 obtain ⟨pb,dl,dm,pv,tv,C,T,sv,wo,hX,hd0,hI,hW,hF⟩ := h
 obtain ⟨bX,bB,bS⟩ := one_new w #[.int .i64 vn,.bool false,.slice qv vr.length cv] 38
 have HB0:Hid (Below w.heap.size w (w.alloc (.cells #[.int .i64 vn,.bool false,.slice qv vr.length cv] 38))) := bB
 have C1:Hid (Calls _ _ _ _ _) := put_any [] none 0 txn vn false vr qv cv (w.alloc (.cells #[.int .i64 vn,.bool false,.slice qv vr.length cv] 38)) (RdR.nil _ _ _) (hV.imm (Imm.of_below bB)) (by simp) (fun i hi => absurd hi (by simp)) hvr
 have HS:Hid (StX w B sb most pb 0 dl dm pv tv C T sv wo M K) := hX
 have HF:Hid (∀ k,F k ↔ stF sb dm pv tv C sv wo k) := hF
 have HW:Hid (InvW M wo) := hW
 have HI:Hid (InvT J most M T) := hI
 have HD0:Hid (∀ d,dl d = 0) := hd0
 obtain ⟨⟨x0,x1,x2⟩,_⟩ := box3 bX
 clear hX hI hW hF hd0 bX bB bS hV
 have hE:putE txn [] ⟨vn,false,vr⟩ = 0 := if_neg (by rw [hb]; decide)
 have hTx:putT txn [] ⟨vn,false,vr⟩ = txn := if_neg (by rw [hb]; decide)
 rw [hE,hTx] at C1
 have hp:1 ≤ txn := by
  simp only [putB,Bool.or_eq_false_iff,decide_eq_false_iff_not] at hb
  omega
 have HOk:Hid (OkR (J + 1) (newR txn ⟨vn,false,vr⟩)) := by
  show OkR _ _
  rw [newR_wri]
  refine ((OkR.nil J).wri ?_ h2 hvr)
  have:wrW nilR txn = [] := by unfold wrW; split <;> rfl
  rw [this]
  exact hb
 have HTx:Hid ((newR txn ⟨vn,false,vr⟩).tx = txn ∧ txn ≠ 0) := ⟨rfl,by omega⟩
 have HT:Hid (Tab w) := hT
 have HL:Hid (thrAt M s = false ∧ ∀ j,j < s → thrAt M j = true) := ⟨hs1,hs2⟩
 have hlen:(wo txn).length ≤ 65536 := Nat.le_trans (HW.out.len txn) (Nat.le_trans HI.out.len HI.out.mst)
 have HST:Hid (∀ k,stF sb dm pv tv C sv wo k → k < w.heap.size ∧ B ≤ k) := fun k hk => ⟨(HS.out.mut hk).2.2,(HS.out.mut hk).2.1⟩
 have HD:Hid (updN (updN dl (dk txn) 1) (dk txn) 0 = dl) := updN_zero HD0.out _
 have hsbw:sb < w.heap.size := HS.out.blk.lt
 clear hE hTx hb hT hs1 hs2
 generalize hRr:newR txn ⟨vn,false,vr⟩ = R at *
 have HR:Hid (R.W = putL txn [] ⟨vn,false,vr⟩ ∧ R.L = [] ∧ R.tx = txn) := by subst hRr; exact ⟨rfl,rfl,rfl⟩
 clear hRr
 generalize hvl:vr.length = vl at *
 clear hvl
 go_enter_defers Tryz.func19,Tryz.ntmps19
 go_wp2_with fail
 refine C1.out.mono ?_
 rintro e w1 ⟨⟨v1,Z1,rfl,hZ1,hO1⟩,hb1⟩
 obtain ⟨q1,c1,rfl,hrd,hnil⟩ := hO1.st hZ1
 have HB1:Hid (Below w.heap.size w w1) := HB0.out.trans (hb1.mono HB0.out.size)
 have hSR:StR w1 none q1 c1 R := ⟨by rw [HR.out.2.1]; rfl,by rw [HR.out.1]; exact hrd,hnil⟩
 have HSR:Hid (StR w1 none q1 c1 R) := hSR
 have HWl:Hid (R.W.length = (putL txn [] ⟨vn,false,vr⟩).length) := by show _ = _; rw [HR.out.1]
 generalize (putL txn [] ⟨vn,false,vr⟩).length = n1 at *
 clear hO1 hZ1 hb1 C1 hrd hnil hSR x0 x1 x2
 obtain ⟨yX,yB,yS⟩ := one_new w1 #[.int .i64 txn,.slice q1 n1 c1] 75
 have hb2:Below w.heap.size w (w1.alloc (.cells #[.int .i64 txn,.slice q1 n1 c1] 75)) := HB1.out.trans (yB.mono HB1.out.size)
 have HX2:Hid (Box (w1.alloc (.cells #[.int .i64 txn,.slice q1 n1 c1] 75)) w1.heap.size #[.int .i64 txn,.slice q1 n1 c1] 75 ∧ Below w.heap.size w (w1.alloc (.cells #[.int .i64 txn,.slice q1 n1 c1] 75)) ∧ StR (w1.alloc (.cells #[.int .i64 txn,.slice q1 n1 c1] 75)) none q1 c1 R ∧ w.heap.size ≤ w1.heap.size) := ⟨yX,hb2,HSR.out.imm (Imm.of_below yB),HB1.out.size⟩
 have C2:Hid (Calls _ _ _ _ _) := desk_any sb txn (w1.alloc (.cells #[.int .i64 txn,.slice q1 n1 c1] 75)) h1 h2
 have C3:Hid (Calls _ _ _ _ _) := lockD (dk txn) (dk_lt txn) (w1.alloc (.cells #[.int .i64 txn,.slice q1 n1 c1] 75)) (HS.out.on hb2) (HD0.out _)
 clear yX yB yS hb2 HSR HB1 HB0
 go_upto_region 6 with fail
 generalize (w1.alloc (.cells #[.int .i64 txn,.slice q1 n1 c1] 75)) = w2 at *
 go_wp2_with fail
 refine C2.out.mono ?_
 rintro e w9 ⟨rfl,hw⟩
 rw [hw]
 clear hw w9 C2
 go_wp2_with fail
 refine C3.out.mono ?_
 rintro e w3 ⟨rfl,hs3,hf3⟩
 have hX3 := HX2.out.1.frm hf3 (show ¬ w1.heap.size = sb by have := HX2.out.2.2.2; omega)
 have i0:w3.cell? ⟨w1.heap.size,0,none⟩ = some (.int .i64 txn) := by unfold Box at hX3; simp [World.cell?,hX3]
 have i1:w3.cell? ⟨w1.heap.size,1,none⟩ = some (.slice q1 n1 c1) := by unfold Box at hX3; simp [World.cell?,hX3]
 have HF3:Hid (Frm w w3 (stF sb dm pv tv C sv wo)) := (Frm.of_below (F := stF sb dm pv tv C sv wo) HX2.out.2.1).trans hf3 (fun k hk => .inl (.inl hk))
 have hT3:Tab w3 := HT.out.keep (HF3.out.below (B := B) (Nat.le_trans HS.out.base (Nat.le_of_lt hsbw)) (fun k hk => (HST.out k hk).2)) hg
 have hR3:StR w3 none q1 c1 R := HX2.out.2.2.1.imm (Imm.of_frm hf3 (fun k hk => by
  intro cs T' z hkk
  have e:k = sb := hk
  rw [e,HX2.out.2.1.block sb hsbw] at hkk
  exact HS.out.blk.mut cs T' z hkk))
 have C4:Hid (Calls _ _ _ _ _) := take_room none q1 c1 s R w3 hs3 HI.out hT3 hg hR3 HL.out.1 HL.out.2 hm (by omega)
 simp only [stV,HR.out.2.2,HWl.out] at C4
 have HS3:Hid (StX w3 B sb most pb 0 (updN dl (dk txn) 1) dm pv tv C T sv wo M K) := hs3
 clear hs3 hf3 hX3 hT3 hR3 C3 HX2
 go_wp2_with fail
 refine C4.out.mono ?_
 rintro e w4 ⟨rfl,⟨pb',pv',tv',C',hs4,hu4⟩,hf4⟩
 have CN:Hid (Calls _ _ _ _ _) := note_all txn s w4 hs4 h1 h2 (by omega) hlen
 have HF4:Hid (Frm w w4 (stF sb dm pv tv C sv wo)) := HF3.out.trans hf4 (fun k hk => .inl hk)
 have HU4:Hid (∀ k,stF sb dm pv' tv' C' sv wo k → stF sb dm pv tv C sv wo k ∨ w.heap.size ≤ k) := fun k hk => (hu4 k hk).elim .inl (fun e => .inr (Nat.le_trans HF3.out.size e))
 have HI4:Hid (InvT (J + 1) most (addM M s R) (onX T s)) := (HI.out.mono (Nat.le_succ J)).take (least_le HL.out.2) hm HOk.out (tx_thr (by rw [HTx.out.1]; exact HTx.out.2))
 have HW4:Hid (InvW (addM M s R) (updI wo txn (wo txn ++ [s]))) := HW.out.addM (least_le HL.out.2) (fun r' hr' => thr_tx (by
  have := HL.out.1
  unfold thrAt at this
  rw [hr'] at this
  exact this)) HTx.out.1 HTx.out.2
 clear hs4 hu4 hf4
 go_wp2_with fail
 refine CN.out.mono ?_
 rintro e w5 ⟨rfl,⟨dm',sv',hs5,hu5⟩,hf5⟩
 go_wp2_with fail
 refine leaves_cons (f := 48) (args := #[.pointer (some ⟨sb,5 + dk txn * 3,none⟩)]) (by simp) (by simp [go_sem]) ?_
 refine (unlockD (dk txn) (dk_lt txn) .returning w5 hs5 (if_pos rfl)).mono ?_
 rintro e u' w7 ⟨rfl,rfl,hs7,hf7⟩
 refine ⟨_,results_tmp2 (t := 6) (u := 7) rfl _ _ _,?_⟩
 rw [HD.out] at hs7
 refine ⟨rfl,⟨stF sb dm' pv' tv' C' sv' (updI wo txn (wo txn ++ [s])),⟨pb',dl,dm',pv',tv',C',onX T s,sv',updI wo txn (wo txn ++ [s]),hs7,HD0.out,HI4.out,HW4.out,fun k => Iff.rfl⟩,fun k hk => ?_⟩,((HF4.out.trans hf5 (fun k hk => HU4.out k hk)).trans hf7 (fun k hk => .inl (.inl hk))).mono (fun k hk => .inl ((HF.out k).2 hk))⟩
 rcases hu5 k hk with h | h
 ·exact (HU4.out k h).elim (fun e => .inl ((HF.out k).2 e)) .inr
 ·exact .inr (Nat.le_trans HF4.out.size h)

end Go.Proofs.YtcibcfghkidncaaGreatDoor

namespace Go.Proofs.YtcibcfghkidncaaGreatDoor
open Go.RowKit Go.Lib Go.Maps
set_option maxRecDepth 100000

set_option maxHeartbeats 8000000 in
theorem add_full (B sb most K J:Nat) (M:List Rs) (F:Nat → Prop) (txn vn:Int) (vg:Bool) (vr:List Vl) (qv:Option Addr) (cv:Nat) (w:World) (h:Sto w B sb most M K J F) (hv:vg = false) (hV:SlV w w.heap.size (.slice qv vr.length cv) vr) (hvr:vr.length ≤ 3518437208882) (hb:putB txn [] ⟨vn,false,vr⟩ = false) (h1:-9223372036854775808 ≤ txn) (h2:txn < 9223372036854775808) (hT:Tab w) (hg : 1 < B) (s:Nat) (hs1:thrAt M s = false) (hs2:∀ j,j < s → thrAt M j = true) (hm:s = most) :
  Calls Tryz.prog 19 #[ptr1 sb,.int .i64 txn,.agg #[.int .i64 vn,.bool vg,.slice qv vr.length cv]] w fun e w' => e = .returned (.tuple #[.int .i64 0,.int .i64 2]) ∧ Sto w' B sb most M K J F ∧ Frm w w' F := by
 have HMo:Hid (s = most) := hm
 clear hm
 subst hv
 obtain ⟨pb,dl,dm,pv,tv,C,T,sv,wo,hX,hd0,hI,hW,hF⟩ := h
 obtain ⟨bX,bB,bS⟩ := one_new w #[.int .i64 vn,.bool false,.slice qv vr.length cv] 38
 have HB0:Hid (Below w.heap.size w (w.alloc (.cells #[.int .i64 vn,.bool false,.slice qv vr.length cv] 38))) := bB
 have C1:Hid (Calls _ _ _ _ _) := put_any [] none 0 txn vn false vr qv cv (w.alloc (.cells #[.int .i64 vn,.bool false,.slice qv vr.length cv] 38)) (RdR.nil _ _ _) (hV.imm (Imm.of_below bB)) (by simp) (fun i hi => absurd hi (by simp)) hvr
 have HS:Hid (StX w B sb most pb 0 dl dm pv tv C T sv wo M K) := hX
 have HF:Hid (∀ k,F k ↔ stF sb dm pv tv C sv wo k) := hF
 have HW:Hid (InvW M wo) := hW
 have HI:Hid (InvT J most M T) := hI
 have HD0:Hid (∀ d,dl d = 0) := hd0
 obtain ⟨⟨x0,x1,x2⟩,_⟩ := box3 bX
 clear hX hI hW hF hd0 bX bB bS hV
 have hE:putE txn [] ⟨vn,false,vr⟩ = 0 := if_neg (by rw [hb]; decide)
 have hTx:putT txn [] ⟨vn,false,vr⟩ = txn := if_neg (by rw [hb]; decide)
 rw [hE,hTx] at C1
 have hp:1 ≤ txn := by
  simp only [putB,Bool.or_eq_false_iff,decide_eq_false_iff_not] at hb
  omega
 have HOk:Hid (OkR (J + 1) (newR txn ⟨vn,false,vr⟩)) := by
  show OkR _ _
  rw [newR_wri]
  refine ((OkR.nil J).wri ?_ h2 hvr)
  have:wrW nilR txn = [] := by unfold wrW; split <;> rfl
  rw [this]
  exact hb
 have HTx:Hid ((newR txn ⟨vn,false,vr⟩).tx = txn ∧ txn ≠ 0) := ⟨rfl,by omega⟩
 have HT:Hid (Tab w) := hT
 have HL:Hid (thrAt M s = false ∧ ∀ j,j < s → thrAt M j = true) := ⟨hs1,hs2⟩
 have hlen:(wo txn).length ≤ 65536 := Nat.le_trans (HW.out.len txn) (Nat.le_trans HI.out.len HI.out.mst)
 have HST:Hid (∀ k,stF sb dm pv tv C sv wo k → k < w.heap.size ∧ B ≤ k) := fun k hk => ⟨(HS.out.mut hk).2.2,(HS.out.mut hk).2.1⟩
 have HD:Hid (updN (updN dl (dk txn) 1) (dk txn) 0 = dl) := updN_zero HD0.out _
 have hsbw:sb < w.heap.size := HS.out.blk.lt
 clear hE hTx hb hT hs1 hs2
 generalize hRr:newR txn ⟨vn,false,vr⟩ = R at *
 have HR:Hid (R.W = putL txn [] ⟨vn,false,vr⟩ ∧ R.L = [] ∧ R.tx = txn) := by subst hRr; exact ⟨rfl,rfl,rfl⟩
 clear hRr
 generalize hvl:vr.length = vl at *
 clear hvl
 go_enter_defers Tryz.func19,Tryz.ntmps19
 go_wp2_with fail
 refine C1.out.mono ?_
 rintro e w1 ⟨⟨v1,Z1,rfl,hZ1,hO1⟩,hb1⟩
 obtain ⟨q1,c1,rfl,hrd,hnil⟩ := hO1.st hZ1
 have HB1:Hid (Below w.heap.size w w1) := HB0.out.trans (hb1.mono HB0.out.size)
 have hSR:StR w1 none q1 c1 R := ⟨by rw [HR.out.2.1]; rfl,by rw [HR.out.1]; exact hrd,hnil⟩
 have HSR:Hid (StR w1 none q1 c1 R) := hSR
 have HWl:Hid (R.W.length = (putL txn [] ⟨vn,false,vr⟩).length) := by show _ = _; rw [HR.out.1]
 generalize (putL txn [] ⟨vn,false,vr⟩).length = n1 at *
 clear hO1 hZ1 hb1 C1 hrd hnil hSR x0 x1 x2
 obtain ⟨yX,yB,yS⟩ := one_new w1 #[.int .i64 txn,.slice q1 n1 c1] 75
 have hb2:Below w.heap.size w (w1.alloc (.cells #[.int .i64 txn,.slice q1 n1 c1] 75)) := HB1.out.trans (yB.mono HB1.out.size)
 have HX2:Hid (Box (w1.alloc (.cells #[.int .i64 txn,.slice q1 n1 c1] 75)) w1.heap.size #[.int .i64 txn,.slice q1 n1 c1] 75 ∧ Below w.heap.size w (w1.alloc (.cells #[.int .i64 txn,.slice q1 n1 c1] 75)) ∧ StR (w1.alloc (.cells #[.int .i64 txn,.slice q1 n1 c1] 75)) none q1 c1 R ∧ w.heap.size ≤ w1.heap.size) := ⟨yX,hb2,HSR.out.imm (Imm.of_below yB),HB1.out.size⟩
 have C2:Hid (Calls _ _ _ _ _) := desk_any sb txn (w1.alloc (.cells #[.int .i64 txn,.slice q1 n1 c1] 75)) h1 h2
 have C3:Hid (Calls _ _ _ _ _) := lockD (dk txn) (dk_lt txn) (w1.alloc (.cells #[.int .i64 txn,.slice q1 n1 c1] 75)) (HS.out.on hb2) (HD0.out _)
 clear yX yB yS hb2 HSR HB1 HB0
 go_upto_region 6 with fail
 generalize (w1.alloc (.cells #[.int .i64 txn,.slice q1 n1 c1] 75)) = w2 at *
 go_wp2_with fail
 refine C2.out.mono ?_
 rintro e w9 ⟨rfl,hw⟩
 rw [hw]
 clear hw w9 C2
 go_wp2_with fail
 refine C3.out.mono ?_
 rintro e w3 ⟨rfl,hs3,hf3⟩
 have hX3 := HX2.out.1.frm hf3 (show ¬ w1.heap.size = sb by have := HX2.out.2.2.2; omega)
 have i0:w3.cell? ⟨w1.heap.size,0,none⟩ = some (.int .i64 txn) := by unfold Box at hX3; simp [World.cell?,hX3]
 have i1:w3.cell? ⟨w1.heap.size,1,none⟩ = some (.slice q1 n1 c1) := by unfold Box at hX3; simp [World.cell?,hX3]
 have HF3:Hid (Frm w w3 (stF sb dm pv tv C sv wo)) := (Frm.of_below (F := stF sb dm pv tv C sv wo) HX2.out.2.1).trans hf3 (fun k hk => .inl (.inl hk))
 have hT3:Tab w3 := HT.out.keep (HF3.out.below (B := B) (Nat.le_trans HS.out.base (Nat.le_of_lt hsbw)) (fun k hk => (HST.out k hk).2)) hg
 have hR3:StR w3 none q1 c1 R := HX2.out.2.2.1.imm (Imm.of_frm hf3 (fun k hk => by
  intro cs T' z hkk
  have e:k = sb := hk
  rw [e,HX2.out.2.1.block sb hsbw] at hkk
  exact HS.out.blk.mut cs T' z hkk))
 have C4:Hid (Calls _ _ _ _ _) := take_full none q1 c1 s R w3 hs3 HI.out hT3 hg hR3 HL.out.1 HL.out.2 HMo.out
 simp only [stV,HR.out.2.2,HWl.out] at C4
 have HS3:Hid (StX w3 B sb most pb 0 (updN dl (dk txn) 1) dm pv tv C T sv wo M K) := hs3
 clear hs3 hf3 hX3 hT3 hR3 C3 HX2
 go_wp2_with fail
 refine C4.out.mono ?_
 rintro e w4 ⟨rfl,hs4,hf4⟩
 go_wp2_with fail
 refine leaves_cons (f := 48) (args := #[.pointer (some ⟨sb,5 + dk txn * 3,none⟩)]) (by simp) (by simp [go_sem]) ?_
 refine (unlockD (dk txn) (dk_lt txn) .returning w4 hs4 (if_pos rfl)).mono ?_
 rintro e u' w7 ⟨rfl,rfl,hs7,hf7⟩
 refine ⟨_,results_tmp2 (t := 6) (u := 7) rfl _ _ _,?_⟩
 rw [HD.out] at hs7
 exact ⟨rfl,⟨pb,dl,dm,pv,tv,C,T,sv,wo,hs7,HD0.out,HI.out,HW.out,HF.out⟩,((HF3.out.trans hf4 (fun k hk => .inl (.inl hk))).trans hf7 (fun k hk => .inl (.inl hk))).mono (fun k hk => .inl ((HF.out k).2 hk))⟩

end Go.Proofs.YtcibcfghkidncaaGreatDoor

namespace Go.Proofs.YtcibcfghkidncaaGreatDoor
open Go.RowKit Go.Lib Go.Maps
set_option maxRecDepth 100000

structure BkQ (B sb most pb:Nat) (dl:Nat → Int) (dm:Nat → Option Nat) (pv tv:Value) (sv:Int → Value) (wo:Int → List Nat) (C:List (Nat × Nat)) (s:Int) (w:World) (b:Nat) (W:World) (u8 u9:Value) (A8 A9:List Nat) (C':List (Nat × Nat)) (T':List Nat) (M':List Rs) (K' J:Nat):Prop where
 o8:OwnI W b u8 A8
 n8:NB W u8
 o9:OwnI W b u9 A9
 n9:NB W u9
 ne:∀ g,u8.ownBlock = some g → u9.ownBlock ≠ some g
 st:StX W B sb most pb 0 dl dm pv tv C' T' sv wo M' K'
 inv:InvT J most M' T'
 fst:C'.map Prod.fst = C.map Prod.fst
 fr:Frm w W (stF sb dm pv tv C sv wo)
 bx:Box W w.heap.size #[.int .i64 s] 3
 sz:b ≤ W.heap.size
 lo:w.heap.size < b
 low:∀ k,stF sb dm pv tv C sv wo k → k < w.heap.size
section
variable {B sb most pb:Nat} {dl:Nat → Int} {dm:Nat → Option Nat} {pv tv:Value} {sv:Int → Value} {wo:Int → List Nat} {C:List (Nat × Nat)} {s:Int} {w:World} {b:Nat} {W W':World} {u8 u9 v6:Value} {A8 A9:List Nat} {C' C2:List (Nat × Nat)} {T' T2:List Nat} {M' M2:List Rs} {K' K2 J x:Nat}
theorem BkQ.turn (h:BkQ B sb most pb dl dm pv tv sv wo C s w b W u8 u9 A8 A9 C' T' M' K' J) (hf:Frm W W' (stF sb dm pv tv C sv wo)) (h1:StX W' B sb most pb 0 dl dm pv tv C2 T2 sv wo M2 K2) (h2:InvT J most M2 T2) (h3:C2.map Prod.fst = C'.map Prod.fst):BkQ B sb most pb dl dm pv tv sv wo C s w b W' u8 u9 A8 A9 C2 T2 M2 K2 J := by
 have hn:∀ (u:Value) (A:List Nat),OwnI W b u A → ∀ g,u.ownBlock = some g → ¬ stF sb dm pv tv C sv wo g := fun u A hu g hg e => by
  have h1 := (World.ownsRow.lt hu g hg).1
  have h2 := h.low g e
  have := h.lo
  omega
 exact ⟨owns_frm h.o8 hf (hn _ _ h.o8),h.n8.frm hf (fun g hg => ⟨(World.ownsRow.lt h.o8 g hg).2,hn _ _ h.o8 g hg⟩),owns_frm h.o9 hf (hn _ _ h.o9),h.n9.frm hf (fun g hg => ⟨(World.ownsRow.lt h.o9 g hg).2,hn _ _ h.o9 g hg⟩),h.ne,h1,h2,h3.trans h.fst,h.fr.trans hf (fun k hk => .inl hk),h.bx.frm hf (fun e => by have := h.low _ e; omega),Nat.le_trans h.sz hf.size,h.lo,h.low⟩
theorem BkQ.on (h:BkQ B sb most pb dl dm pv tv sv wo C s w b W u8 u9 A8 A9 C' T' M' K' J) (hb:Below W.heap.size W W'):BkQ B sb most pb dl dm pv tv sv wo C s w b W' u8 u9 A8 A9 C' T' M' K' J := h.turn (Frm.of_below hb) (h.st.on hb) h.inv rfl
theorem BkQ.bnd (h:BkQ B sb most pb dl dm pv tv sv wo C s w b W u8 u9 A8 A9 C' T' M' K' J):∀ k,stF sb dm pv tv C' sv wo k → k < b := fun k hk => Nat.lt_trans (h.low k (stF_fst h.fst hk)) h.lo
theorem frm_lo {W W':World} (hb:Below b W W'):Frm W W' (fun k => b ≤ k) := ⟨hb.os,hb.tape,hb.output,hb.size,fun k _ hn => hb.block k (Nat.lt_of_not_le hn)⟩
theorem BkQ.app8 (h:BkQ B sb most pb dl dm pv tv sv wo C s w b W u8 u9 A8 A9 C' T' M' K' J) (h6:W'.ownsRow b 3 1 v6 (A8.length + 1) (icells A8 ++ [.int .i64 (x:Nat)])) (h7:(W.alloc (.cells #[.int .i64 (x:Nat)] 3)).grownBy W' u8.ownBlock) (h8:v6.ownBlock = u8.ownBlock ∨ v6.ownBlock = some (W.heap.size + 1)) (h10:NB W' v6) :
  BkQ B sb most pb dl dm pv tv sv wo C s w b W' v6 u9 (A8 ++ [x]) A9 C' T' M' K' J ∧ Imm W W' ∧ Frm W W' (fun k => u8.ownBlock = some k) := by
 obtain ⟨b1,b2,b3,b4⟩ := h.st.beside (x := x) h.o8 h.n8 h.sz h.bnd h6 h7
 have hf := grown_frm h7
 have hl := frm_lo b3
 have hlo := h.lo
 refine ⟨⟨b1,h10,owns_frm h.o9 hf (fun g hg e => h.ne g e hg),h.n9.frm hf (fun g hg => ⟨(World.ownsRow.lt h.o9 g hg).2,fun e => h.ne g e hg⟩),fun g hg e => ?_,b2,h.inv,h.fst,h.fr.trans hl (fun k hk => .inr (by omega)),h.bx.frm hl (by omega),Nat.le_trans h.sz b3.size,h.lo,h.low⟩,b4,hf⟩
 rcases h8 with h8 | h8
 ·exact h.ne g (h8.symm.trans hg) e
 ·rw [h8] at hg
  cases hg
  have := (World.ownsRow.lt h.o9 _ e).2
  omega
theorem BkQ.app9 (h:BkQ B sb most pb dl dm pv tv sv wo C s w b W u8 u9 A8 A9 C' T' M' K' J) (h6:W'.ownsRow b 3 1 v6 (A9.length + 1) (icells A9 ++ [.int .i64 (x:Nat)])) (h7:(W.alloc (.cells #[.int .i64 (x:Nat)] 3)).grownBy W' u9.ownBlock) (h8:v6.ownBlock = u9.ownBlock ∨ v6.ownBlock = some (W.heap.size + 1)) (h10:NB W' v6) :
  BkQ B sb most pb dl dm pv tv sv wo C s w b W' u8 v6 A8 (A9 ++ [x]) C' T' M' K' J := by
 obtain ⟨b1,b2,b3,b4⟩ := h.st.beside (x := x) h.o9 h.n9 h.sz h.bnd h6 h7
 have hf := grown_frm h7
 have hl := frm_lo b3
 have hlo := h.lo
 refine ⟨owns_frm h.o8 hf (fun g hg e => h.ne g hg e),h.n8.frm hf (fun g hg => ⟨(World.ownsRow.lt h.o8 g hg).2,fun e => h.ne g hg e⟩),b1,h10,fun g hg e => ?_,b2,h.inv,h.fst,h.fr.trans hl (fun k hk => .inr (by omega)),h.bx.frm hl (by omega),Nat.le_trans h.sz b3.size,h.lo,h.low⟩
 rcases h8 with h8 | h8
 ·exact h.ne g hg (h8.symm.trans e)
 ·rw [h8] at e
  cases e
  have := (World.ownsRow.lt h.o8 _ hg).2
  omega
end

end Go.Proofs.YtcibcfghkidncaaGreatDoor

namespace Go.Proofs.YtcibcfghkidncaaGreatDoor
open Go.RowKit Go.Lib Go.Maps
set_option maxRecDepth 100000

set_option maxHeartbeats 16000000 in
theorem backS_any (B sb most K J:Nat) (M:List Rs) (F:Nat → Prop) (t s:Int) (w:World) (h:Sto w B sb most M K J F) (h1:-9223372036854775808 ≤ t) (h2:t < 9223372036854775808) (hK:K + 65537 ≤ 8000000000000000000) (hJ:J ≤ 3518437208882) :
  Calls Tryz.prog 17 #[ptr1 sb,.int .i64 t,.int .i64 s] w fun e w' => ∃ v' G F',e = .returned v' ∧ OwnI w' w.heap.size v' G ∧ G.Pairwise (· < ·) ∧ (∀ x,x ∈ G ↔ t ≠ 0 ∧ ∃ r,M[x]? = some r ∧ r.tx = t ∧ thr (bakR s r) = false) ∧ Sto w' B sb most (mapT (bakR s) t M) (K + 65537) J F' ∧ (∀ k,F' k → F k ∨ w.heap.size ≤ k) ∧ (∀ k,v'.ownBlock = some k → ¬ F' k) ∧ Frm w w' F := by
 obtain ⟨pb,dl,dm,pv,tv,C,T,sv,wo,hX,hd0,hI,hW,hF⟩ := h
 obtain ⟨bX,bB,bS⟩ := one_new w #[.int .i64 s] 3
 have HB0:Hid (Below w.heap.size w (w.alloc (.cells #[.int .i64 s] 3))) := bB
 have HX0:Hid (Box (w.alloc (.cells #[.int .i64 s] 3)) w.heap.size #[.int .i64 s] 3) := bX
 have HS0:Hid (StX (w.alloc (.cells #[.int .i64 s] 3)) B sb most pb 0 dl dm pv tv C T sv wo M K) := hX.on bB
 have HF:Hid (∀ k,F k ↔ stF sb dm pv tv C sv wo k) := hF
 have HW:Hid (InvW M wo) := hW
 have HI:Hid (InvT J most M T) := hI
 have HST:Hid (∀ k,stF sb dm pv tv C sv wo k → k < w.heap.size) := fun k hk => (hX.mut hk).2.2
 have HBs:Hid (B ≤ w.heap.size) := Nat.le_trans hX.base (Nat.le_of_lt hX.blk.lt)
 have C1:Hid (Calls _ _ _ _ _) := desk_any sb t (w.alloc (.cells #[.int .i64 s] 3)) h1 h2
 have C2:Hid (Calls _ _ _ _ _) := lockD (dk t) (dk_lt t) _ HS0.out (hd0 _)
 have HM:Hid (mapT (bakR s) t M = modL (bakR s) (wo t) M) := (modL_map (hW.nod t) (hW.mem t)).symm
 have HD:Hid (updN (updN dl (dk t) 1) (dk t) 0 = dl ∧ ∀ d,dl d = 0) := ⟨updN_zero hd0 _,hd0⟩
 have hlen:(wo t).length ≤ 65536 := Nat.le_trans (hW.len t) (Nat.le_trans hI.len hI.mst)
 clear hX hI hW hF bX bB bS hd0
 go_enter_defers Tryz.func17,Tryz.ntmps17
 go_wp2_with fail
 generalize (w.alloc (.cells #[.int .i64 s] 3)) = w0 at *
 refine C1.out.mono ?_
 rintro e w9 ⟨rfl,hw⟩
 rw [hw]
 clear hw w9 C1
 go_wp2_with fail
 refine C2.out.mono ?_
 rintro e w1 ⟨rfl,hs1,hf1⟩
 obtain ⟨_,c1,_,_⟩ := hs1.deskc (dk_lt t)
 have l1 := hs1.look t h1 h2
 obtain ⟨p,c,hsl,_⟩ := hs1.slice t
 rw [hsl] at l1
 have HS1:Hid (StX w1 B sb most pb 0 (updN dl (dk t) 1) dm pv tv C T sv wo M K) := hs1
 have HSL:Hid (slO (fD sv wo (dk t) t) = .slice p (wo t).length c) := hsl
 have HF1:Hid (Frm w w1 (stF sb dm pv tv C sv wo)) := (Frm.of_below HB0.out).trans hf1 (fun k hk => .inl (.inl hk))
 have hsbw:sb < w.heap.size := HST.out sb (.inl rfl)
 have HX1:Hid (Box w1 w.heap.size #[.int .i64 s] 3) := HX0.out.frm hf1 (show ¬ w.heap.size = sb by omega)
 have hsz1:w.heap.size < w1.heap.size := HX1.out.lt
 clear hs1 hf1 hsl C2 HS0 HX0
 obtain ⟨n,hn⟩:∃ n,(wo t).length = n := ⟨_,rfl⟩
 rw [hn] at l1 HSL hlen
 go_wp2_with fail
 go_loopw [8,9,30] (fun u8 u9 i wq => ∃ (j:Nat) (C':List (Nat × Nat)) (T':List Nat),j ≤ n ∧ i = .int .i64 (j:Int) ∧ Hid (BkQ B sb most pb (updN dl (dk t) 1) dm pv tv sv wo C s w w1.heap.size wq u8 u9 (((wo t).take j).filter (lefA s t M)) (((wo t).take j).filter (gonB s M)) C' T' (modL (bakR s) ((wo t).take j) M) (K + j) J)) (fun _ _ i _ => n - (intOf i).toNat)
 case atStart => exact ⟨0,C,T,Nat.zero_le _,by go_num,⟨OwnI.nil _ _,NB.nil _,OwnI.nil _ _,NB.nil _,(fun g hg => by cases hg),HS1.out,HI.out,rfl,HF1.out,HX1.out,Nat.le_refl _,hsz1,HST.out⟩⟩
 case round =>
  obtain ⟨j,C',T',hj,rfl,hQ⟩ := hrel
  clear HS1 HF1 HX1 c1 l1
  by_cases hj0:j = n
  ·subst hj0
   have hQ' := hQ.out
   have hlt:(wo t).take j = wo t := by rw [← hn,List.take_length]
   rw [hlt] at hQ'
   have HE:Hid (modL (bakR s) (wo t) M = mapT (bakR s) t M) := HM.out.symm
   rw [HE.out] at hQ'
   have hl8:((wo t).filter (lefA s t M)).length ≤ 65536 := by
    have h1 := List.length_filter_le (lefA s t M) (wo t)
    omega
   have hl9:((wo t).filter (gonB s M)).length ≤ 65536 := by
    have h1 := List.length_filter_le (gonB s M) (wo t)
    omega
   have HG:Hid (((wo t).filter (gonB s M)).Nodup ∧ ∀ x,x ∈ (wo t).filter (gonB s M) ↔ t ≠ 0 ∧ ∃ r,M[x]? = some r ∧ r.tx = t ∧ thr (bakR s r) = false) := by
    refine ⟨List.Pairwise.filter _ (HW.out.nod t),fun x => ?_⟩
    rw [List.mem_filter,HW.out.mem t x]
    unfold gonB
    rw [List.getD_eq_getElem?_getD]
    cases em:M[x]? with
    | none => simp
    | some r => simp [and_assoc]
   have HQ1:Hid (BkQ B sb most pb (updN dl (dk t) 1) dm pv tv sv wo C s w w1.heap.size wr u8 u9 ((wo t).filter (lefA s t M)) ((wo t).filter (gonB s M)) C' T' (mapT (bakR s) t M) (K + j) J) := hQ'
   have CK:Hid (Calls _ _ _ _ _) := keep_all t u8 ((wo t).filter (lefA s t M)) wr HQ1.out.st h1 h2 (fun e e2 => e (by rw [e2]; rfl)) (by omega) hl8 (owns_base HQ1.out.o8 (Nat.le_trans HBs.out (Nat.le_of_lt hsz1))) HQ1.out.n8 (fun k hk e => by
    have h1 := HQ1.out.bnd k e
    have h2 := (World.ownsRow.lt HQ1.out.o8 k hk).1
    omega)
   have HIW:Hid (InvW (mapT (bakR s) t M) (updI wo t ((wo t).filter (lefA s t M)))) := HW.out.back s t
   obtain ⟨p8,k8,rfl,_⟩ := owns_len HQ1.out.o8
   obtain ⟨p9,k9,rfl,_⟩ := owns_len HQ1.out.o9
   generalize (wo t).filter (lefA s t M) = A8 at *
   generalize (wo t).filter (gonB s M) = A9 at *
   clear hQ hQ' hlt
   go_wp2_with fail
   refine CK.out.mono ?_
   rintro e w5 ⟨rfl,⟨sv',hs5,hst5⟩,hf5⟩
   have hst5':∀ k,stF sb dm pv tv C' sv wo k → ¬ (Value.slice p9 A9.length k9).ownBlock = some k := fun k hk e => by
    have h1 := HQ1.out.bnd k hk
    have h2 := (World.ownsRow.lt HQ1.out.o9 k e).1
    omega
   have hmk:∀ k,dm (dk t) = some k → stF sb dm pv tv C' sv wo k := fun k hk => .inr (.inr (.inr (.inr (.inl ⟨_,dk_lt t,hk⟩))))
   have hO5:OwnI w5 w1.heap.size (.slice p9 A9.length k9) A9 := owns_frm HQ1.out.o9 hf5 (fun g hg e => hst5' g (hmk g e) hg)
   have hN5:NB w5 (.slice p9 A9.length k9) := HQ1.out.n9.frm hf5 (fun g hg => ⟨(World.ownsRow.lt HQ1.out.o9 g hg).2,fun e => hst5' g (hmk g e) hg⟩)
   have HF5:Hid (Frm w w5 (stF sb dm pv tv C sv wo)) := HQ1.out.fr.trans hf5 (fun k hk => .inl (stF_fst HQ1.out.fst (hmk k hk)))
   have HN5:Hid (OwnI w5 w1.heap.size (.slice p9 A9.length k9) A9 ∧ NB w5 (.slice p9 A9.length k9)) := ⟨hO5,hN5⟩
   have HS5:Hid (StX w5 B sb most pb 0 (updN dl (dk t) 1) dm pv tv C' T' sv' (updI wo t A8) (mapT (bakR s) t M) (K + j + 1)) := hs5
   have HST5:Hid (∀ k,stF sb dm pv tv C' sv' (updI wo t A8) k → (stF sb dm pv tv C' sv wo k ∨ (Value.slice p8 A8.length k8).ownBlock = some k) ∧ (Value.slice p9 A9.length k9).ownBlock ≠ some k) := fun k hk => ⟨hst5 k hk,fun e => (hst5 k hk).elim (fun h => hst5' k h e) (fun h => HQ1.out.ne k h e)⟩
   have C6:Hid (Calls _ _ _ _ _) := sort_any A9 (.slice p9 A9.length k9) w1.heap.size w5 hO5 hl9
   clear hs5 hst5 hf5 hst5' hmk hO5 hN5 CK
   go_wp2_with fail
   refine C6.out.mono ?_
   rintro e w6 ⟨rfl,hO6,hf6⟩
   have hs6 := HS5.out.keep hf6 (Imm.of_frm hf6 (fun k hk => HN5.out.2.mut HN5.out.1 hk (by decide))) (fun k hk e => (HST5.out k hk).2 e)
   have HS6:Hid (StX w6 B sb most pb 0 (updN dl (dk t) 1) dm pv tv C' T' sv' (updI wo t A8) (mapT (bakR s) t M) (K + j + 1)) := hs6
   have HO6:Hid (OwnI w6 w1.heap.size (.slice p9 A9.length k9) (srt A9)) := hO6
   have HF6:Hid (Frm w w6 (stF sb dm pv tv C sv wo)) := HF5.out.trans hf6 (fun k hk => .inr (by
    have h1 := (World.ownsRow.lt HN5.out.1 k hk).1
    omega))
   clear hs6 hO6 hf6 C6 HS5 HN5 HF5
   go_wp2_with fail
   refine leaves_cons (f := 48) (args := #[.pointer (some ⟨sb,5 + dk t * 3,none⟩)]) (by simp) (by simp [go_sem]) ?_
   refine (unlockD (dk t) (dk_lt t) .returning w6 HS6.out (if_pos rfl)).mono ?_
   rintro e u' w7 ⟨rfl,rfl,hs7,hf7⟩
   refine ⟨_,results_tmp (t := 6) rfl _ _ _,?_⟩
   rw [HD.out.1] at hs7
   have hO7:OwnI w7 w1.heap.size (.slice p9 A9.length k9) (srt A9) := owns_frm HO6.out hf7 (fun g hg e => by
    have h1 := (World.ownsRow.lt HO6.out g hg).1
    have h2:g = sb := e
    omega)
   refine ⟨_,srt A9,stF sb dm pv tv C' sv' (updI wo t A8),rfl,owns_base hO7 (Nat.le_of_lt hsz1),srt_rise HG.out.1,fun x => ((srt_perm A9).mem_iff).trans (HG.out.2 x),⟨pb,dl,dm,pv,tv,C',T',sv',updI wo t A8,hs7.mono (by omega),HD.out.2,HQ1.out.inv,HIW.out,fun k => Iff.rfl⟩,fun k hk => ?_,fun k hk e => (HST5.out k e).2 hk,?_⟩
   ·rcases (HST5.out k hk).1 with h | h
    ·exact .inl ((HF.out k).2 (stF_fst HQ1.out.fst h))
    ·have := (World.ownsRow.lt HQ1.out.o8 k h).1
     exact .inr (by omega)
   ·exact (HF6.out.trans hf7 (fun k hk => .inl (.inl hk))).mono (fun k hk => .inl ((HF.out k).2 hk))
  ·have hj1:j < (wo t).length := by omega
   have hjn:j < n := by omega
   have hS := hQ.out.st
   have hI := hQ.out.inv
   have hx := hQ.out.bx
   obtain ⟨g,hpg,a0⟩ := hS.wrote t HSL.out hj1
   obtain ⟨h0,r,hr,htx⟩ := (HW.out.mem t (wo t)[j]).1 (List.getElem_mem hj1)
   have hMj:(modL (bakR s) ((wo t).take j) M)[(wo t)[j]]? = some r := (modL_not _ _ _ _ (take_not (HW.out.nod t) hj1)).trans hr
   obtain ⟨hxl,hxe⟩ := List.getElem?_eq_some_iff.1 hMj
   have hok := HI.out.ok r (List.mem_of_getElem? hr)
   have hWl:0 < r.W.length := by
    have:r.W ≠ [] := fun e => h0 (by rw [← htx]; exact hok.tx0.2 e)
    exact List.length_pos_iff.2 this
   obtain ⟨v,hv,_⟩ := lastW_some hWl
   have hgd:M.getD (wo t)[j] nilR = r := by rw [List.getD_eq_getElem?_getD,hr]; rfl
   have HG8:Hid (((wo t).take (j + 1)).filter (lefA s t M) = ((wo t).take j).filter (lefA s t M) ++ (if (bakR s r).tx = t then [(wo t)[j]] else [])) := by
    show _ = _
    rw [filter_one _ hj1]
    unfold lefA
    rw [hgd]
    by_cases e:(bakR s r).tx = t <;> simp [e]
   have HG9:Hid (((wo t).take (j + 1)).filter (gonB s M) = ((wo t).take j).filter (gonB s M) ++ (if thr (bakR s r) = true then [] else [(wo t)[j]])) := by
    show _ = _
    rw [filter_one _ hj1]
    unfold gonB
    rw [hgd]
    cases thr (bakR s r) <;> rfl
   have HTh:Hid ((bakR s r).tx = t → thr (bakR s r) = true) := fun e => tx_thr (by rw [e]; exact h0)
   have hxx := hx.lt
   have HT:Hid (Calls _ _ _ _ _) := turnG1 (J := J) 50 (ptr1 w.heap.size) (wo t)[j] (bakR s r) (!decide (v.n < s)) none1 (fun _ => True) wr hS hI hxl (by rw [hxe]; exact tx_thr (by rw [htx]; exact h0)) (by omega) (fun hb => by
    rw [hxe]
    exact bak_same hok hv (by simpa using hb)) (hok.bak s) back_enters (fun _ h => h.elim) (fun _ _ _ _ => trivial) (fun w2 p2 q2 c2 hb2 hs2' => by
    rw [hxe] at hs2' ⊢
    refine (cback_any p2 q2 c2 J r v s w.heap.size w2 hs2' hv hok hJ ((hb2.cell (p := ⟨w.heap.size,0,none⟩) hxx).trans hx.cell0.1) (Nat.lt_of_lt_of_le hxx hb2.size)).mono ?_
    rintro e w3 ⟨h5,h6⟩
    exact ⟨h5,Frm.of_below h6,trivial⟩)
   have HNx:Hid ((modL (bakR s) ((wo t).take j) M).set (wo t)[j] (bakR s r) = modL (bakR s) ((wo t).take (j + 1)) M) := by
    show _ = _
    rw [take_one hj1,modL_app,modify_set hxl,hxe]
   have hA8:(((wo t).take j).filter (lefA s t M)).length ≤ 65536 := by
    have h1 := List.length_filter_le (lefA s t M) ((wo t).take j)
    rw [List.length_take] at h1
    omega
   have hA9:(((wo t).take j).filter (gonB s M)).length ≤ 65536 := by
    have h1 := List.length_filter_le (gonB s M) ((wo t).take j)
    rw [List.length_take] at h1
    omega
   clear hr hMj hxl hxe hok hWl hv htx hgd h0 hS hI hx
   generalize (wo t)[j] = x at *
   generalize bakR s r = r3 at *
   subst hpg
   obtain ⟨p8,k8,rfl,_⟩ := owns_len hQ.out.o8
   obtain ⟨p9,k9,rfl,_⟩ := owns_len hQ.out.o9
   generalize hAl8:((wo t).take j).filter (lefA s t M) = A8 at *
   generalize hAl9:((wo t).take j).filter (gonB s M) = A9 at *
   go_wp2_with fail
   refine HT.out.mono ?_
   rintro e w2 ⟨⟨v2,rfl,p2,q2,c2,rfl,hs2⟩,⟨C2,T2,hS2,hI2,hC2⟩,-,hf2⟩
   obtain ⟨tx3,htx3⟩:∃ x,r3.tx = x := ⟨_,rfl⟩
   obtain ⟨n3,hn3⟩:∃ x,r3.W.length = x := ⟨_,rfl⟩
   have C5:Hid (∀ w3,Imm w2 w3 → Calls Tryz.prog 52 #[stV p2 q2 c2 r3] w3 fun e w' => e = .returned (.bool (thr r3)) ∧ Below w3.heap.size w3 w') := fun w3 h3 => there_any p2 q2 c2 r3 w3 (hs2.imm h3).pst
   simp only [stV,htx3,hn3] at C5 ⊢
   rw [htx3] at HG8 HTh
   have hfr:Frm wr w2 (stF sb dm pv tv C sv wo) := hf2.mono (fun k hk => .inl (hk.elim (fun h => h.elim) (fun h => stF_fst hQ.out.fst h)))
   rw [HNx.out] at hS2 hI2
   obtain ⟨yX,yB,yS⟩ := one_new w2 #[.pointer p2,.int .i64 tx3,.slice q2 n3 c2] 125
   have HQ3:Hid (BkQ B sb most pb (updN dl (dk t) 1) dm pv tv sv wo C s w w1.heap.size (w2.alloc (.cells #[.pointer p2,.int .i64 tx3,.slice q2 n3 c2] 125)) (.slice p8 A8.length k8) (.slice p9 A9.length k9) A8 A9 C2 T2 (modL (bakR s) ((wo t).take (j + 1)) M) (K + (j + 1)) J) := (hQ.out.turn (K2 := K + (j + 1)) hfr hS2 hI2 hC2).on yB
   have HY:Hid (Box (w2.alloc (.cells #[.pointer p2,.int .i64 tx3,.slice q2 n3 c2] 125)) w2.heap.size #[.pointer p2,.int .i64 tx3,.slice q2 n3 c2] 125 ∧ Below w2.heap.size w2 (w2.alloc (.cells #[.pointer p2,.int .i64 tx3,.slice q2 n3 c2] 125)) ∧ (∀ g,(Value.slice p8 A8.length k8).ownBlock = some g → g < w2.heap.size)) := ⟨yX,yB,fun g hg => Nat.lt_of_lt_of_le (World.ownsRow.lt hQ.out.o8 g hg).2 hfr.size⟩
   obtain ⟨⟨y0,y1,y2⟩,_⟩ := box3 yX
   clear hs2 hS2 hI2 hC2 hf2 hfr yX yB yS HT HNx hQ a0
   go_upto_region 9 with fail
   generalize (w2.alloc (.cells #[.pointer p2,.int .i64 tx3,.slice q2 n3 c2] 125)) = w3 at *
   have hle := HQ3.out.sz
   by_cases htt:tx3 = t
   ·have ht3 := HTh.out htt
    have e8 := HG8.out
    rw [if_pos htt] at e8
    have HE8:Hid (_ = _) := e8
    clear e8
    have hbq:(tx3 == t) = true := by simp [htt]
    rw [ht3] at C5
    go_upto_region 11 with (first | (at_builtin; go_loud (refine wpList_app1n w3 rfl (.tmp 43) (.tmp 45) 3 56 _ 8 rfl Tryz.underlying56 info_int rfl (nb_int _ _) w1.heap.size _ _ _ (by rfl) HQ3.out.o8 HQ3.out.n8 (.int .i64 (x:Nat)) rfl (nb_int _ _) w3.heap.size (by rfl) rfl (by omega) (by omega) hle ?_); intro v6 w6 h6 h7 h8 h9 h10))
    obtain ⟨b1,b2,b3⟩ := HQ3.out.app8 h6 h7 h8 h10
    have hY6 := HY.out.1.frm b3 (fun e => by have := HY.out.2.2 _ e; omega)
    have HQ6:Hid (BkQ B sb most pb (updN dl (dk t) 1) dm pv tv sv wo C s w w1.heap.size w6 v6 (.slice p9 A9.length k9) (A8 ++ [x]) A9 C2 T2 (modL (bakR s) ((wo t).take (j + 1)) M) (K + (j + 1)) J) := b1
    have HI6:Hid (Imm w2 w6) := (Imm.of_below HY.out.2.1).trans b2
    obtain ⟨⟨z0,z1,z2⟩,_⟩ := box3 hY6
    obtain ⟨p6,k6,rfl,_⟩ := owns_len b1.o8
    clear b1 b2 b3 h6 h7 h8 h9 h10 hY6 y0 y1 y2 htt
    go_wp2_with fail
    refine (C5.out _ HI6.out).mono ?_
    rintro e w7 ⟨rfl,hb7⟩
    have HQ7:Hid (BkQ B sb most pb (updN dl (dk t) 1) dm pv tv sv wo C s w w1.heap.size w7 (.slice p6 (A8 ++ [x]).length k6) (.slice p9 A9.length k9) (A8 ++ [x]) A9 C2 T2 (modL (bakR s) ((wo t).take (j + 1)) M) (K + (j + 1)) J) := HQ6.out.on hb7
    clear hb7
    go_wp2_with fail
    go_roundw
    case rel =>
     have e8 := HE8.out
     have e9 := HG9.out
     rw [if_pos ht3,List.append_nil] at e9
     refine ⟨j + 1,C2,T2,by omega,by go_num,?_⟩
     show BkQ _ _ _ _ _ _ _ _ _ _ _ _ _ _ _ _ _ _ _ _ _ _ _ _
     rw [e8,e9]
     have e7 := HQ7.out
     rw [List.length_append,List.length_singleton] at e7
     exact e7
    case measure => simp [intOf]; omega
   ·have hbq:(tx3 == t) = false := by simp [htt]
    have e8 := HG8.out
    rw [if_neg htt,List.append_nil] at e8
    have HE8:Hid (_ = _) := e8
    clear e8
    cases ht3:thr r3 with
    | true =>
     rw [ht3] at C5
     go_wp2_with fail
     refine (C5.out _ (Imm.of_below HY.out.2.1)).mono ?_
     rintro e w7 ⟨rfl,hb7⟩
     have HQ7:Hid (BkQ B sb most pb (updN dl (dk t) 1) dm pv tv sv wo C s w w1.heap.size w7 (.slice p8 A8.length k8) (.slice p9 A9.length k9) A8 A9 C2 T2 (modL (bakR s) ((wo t).take (j + 1)) M) (K + (j + 1)) J) := HQ3.out.on hb7
     clear hb7
     go_wp2_with fail
     go_roundw
     case rel =>
      have e9 := HG9.out
      rw [if_pos ht3,List.append_nil] at e9
      refine ⟨j + 1,C2,T2,by omega,by go_num,?_⟩
      show BkQ _ _ _ _ _ _ _ _ _ _ _ _ _ _ _ _ _ _ _ _ _ _ _ _
      rw [HE8.out,e9]
      exact HQ7.out
     case measure => simp [intOf]; omega
    | false =>
     rw [ht3] at C5
     go_wp2_with fail
     refine (C5.out _ (Imm.of_below HY.out.2.1)).mono ?_
     rintro e w7 ⟨rfl,hb7⟩
     have HQ7:Hid (BkQ B sb most pb (updN dl (dk t) 1) dm pv tv sv wo C s w w1.heap.size w7 (.slice p8 A8.length k8) (.slice p9 A9.length k9) A8 A9 C2 T2 (modL (bakR s) ((wo t).take (j + 1)) M) (K + (j + 1)) J) := HQ3.out.on hb7
     have hle7 := HQ7.out.sz
     clear hb7
     go_wp2_with (first | (at_builtin; go_loud (refine wpList_app1n w7 rfl (.tmp 50) (.tmp 52) 3 56 _ 8 rfl Tryz.underlying56 info_int rfl (nb_int _ _) w1.heap.size _ _ _ (by rfl) HQ7.out.o9 HQ7.out.n9 (.int .i64 (x:Nat)) rfl (nb_int _ _) w7.heap.size (by rfl) rfl (by omega) (by omega) hle7 ?_); intro v6 w6 h6 h7 h8 h9 h10))
     have HQ6:Hid (BkQ B sb most pb (updN dl (dk t) 1) dm pv tv sv wo C s w w1.heap.size w6 (.slice p8 A8.length k8) v6 A8 (A9 ++ [x]) C2 T2 (modL (bakR s) ((wo t).take (j + 1)) M) (K + (j + 1)) J) := HQ7.out.app9 h6 h7 h8 h10
     clear h6 h7 h8 h9 h10
     go_wp2_with fail
     go_roundw
     case rel =>
      have e9 := HG9.out
      rw [if_neg (by rw [ht3]; decide)] at e9
      refine ⟨j + 1,C2,T2,by omega,by go_num,?_⟩
      show BkQ _ _ _ _ _ _ _ _ _ _ _ _ _ _ _ _ _ _ _ _ _ _ _ _
      rw [HE8.out,e9]
      exact HQ6.out
     case measure => simp [intOf]; omega

end Go.Proofs.YtcibcfghkidncaaGreatDoor
