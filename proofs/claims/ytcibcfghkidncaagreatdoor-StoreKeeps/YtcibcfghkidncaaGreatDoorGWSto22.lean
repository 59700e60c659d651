/- A store: take. A store: Add. The document's store: Add. The first slot that is free: plain mathematics. -/
import Derived.Deep.RegionHeld3
import Derived.Test.YtcibcfghkidncaaGreatDoorGWSto19
import Derived.Test.YtcibcfghkidncaaGreatDoorGWDoc23
import Derived.Test.YtcibcfghkidncaaGreatDoorGMAny9
import Derived.Test.YtcibcfghkidncaaGreatDoorGWDoc19
namespace Go.Proofs.YtcibcfghkidncaaGreatDoor
open Go.RowKit Go.Lib Go.Maps
set_option maxRecDepth 100000
section
variable {B sb most pb:Nat} {dl:Nat → Int} {dm:Nat → Option Nat} {pv tv:Value} {C:List (Nat × Nat)} {T:List Nat} {sv:Int → Value} {wo:Int → List Nat} {M:List Rs} {K J:Nat}

set_option maxHeartbeats 8000000 in
theorem take_old (p q:Option Addr) (c s:Nat) (r:Rs) (w:World) (h:StX w B sb most pb 0 dl dm pv tv C T sv wo M K) (hI:InvT J most M T) (hT:Tab w) (hg : 1 < B) (hs:StR w p q c r) (hs1:thrAt M s = false) (hs2:∀ j,j < s → thrAt M j = true) (hm:s < most) (hsM:s < M.length) (hK:K + 1 ≤ 9000000000000000000) :
  Calls Tryz.prog 57 #[ptr1 sb,stV p q c r] w fun e w' => e = .returned (.tuple #[.int .i64 (s:Nat),.int .i64 0]) ∧ (∃ pb' pv' tv' C',StX w' B sb most pb' 0 dl dm pv' tv' C' (onX T s) sv wo (addM M s r) (K + 1) ∧ ∀ k,stF sb dm pv' tv' C' sv wo k → stF sb dm pv tv C sv wo k ∨ w.heap.size ≤ k) ∧ Frm w w' (stF sb dm pv tv C sv wo) := by
 obtain ⟨tx,htx⟩:∃ x,r.tx = x := ⟨_,rfl⟩
 obtain ⟨n,hn⟩:∃ x,r.W.length = x := ⟨_,rfl⟩
 simp only [stV,htx,hn]
 obtain ⟨bX,bB,bS⟩ := one_new w #[.pointer p,.int .i64 tx,.slice q n c] 125
 have HX0:Hid (stB (w.alloc (.cells #[.pointer p,.int .i64 tx,.slice q n c] 125)) w.heap.size p tx q n c ∧ Below w.heap.size w (w.alloc (.cells #[.pointer p,.int .i64 tx,.slice q n c] 125))) := ⟨bX,bB⟩
 have HS:Hid (StX w B sb most pb 0 dl dm pv tv C T sv wo M K) := h
 have HS0:Hid (StX (w.alloc (.cells #[.pointer p,.int .i64 tx,.slice q n c] 125)) B sb most pb 0 dl dm pv tv C T sv wo M K) := h.on bB
 have HR:Hid (StR w p q c r ∧ r.tx = tx ∧ r.W.length = n) := ⟨hs,htx,hn⟩
 have HI:Hid (InvT J most M T) := hI
 have HT:Hid (Tab w) := hT
 have HL:Hid (thrAt M s = false ∧ ∀ j,j < s → thrAt M j = true) := ⟨hs1,hs2⟩
 have HB:Hid (B ≤ sb ∧ sb < w.heap.size) := ⟨h.base,h.blk.lt⟩
 clear h hs bX bB bS htx hn hI hT hs1 hs2
 go_enter_defers Tryz.func57,Tryz.ntmps57
 go_upto_region 1 with fail
 generalize (w.alloc (.cells #[.pointer p,.int .i64 tx,.slice q n c] 125)) = w0 at *
 have C1:Hid (Calls _ _ _ _ _) := lockS w0 HS0.out
 go_wp2_with fail
 refine C1.out.mono ?_
 rintro e w1 ⟨rfl,hsx1,hf1⟩
 have hf1w:Frm w w1 (one1 sb) := (Frm.of_below (F := one1 sb) HX0.out.2).trans hf1 (fun k hk => .inl hk)
 have hbw1:Below B w w1 := hf1w.below (Nat.le_trans HB.out.1 (Nat.le_of_lt HB.out.2)) (fun k hk => by rw [hk]; exact HB.out.1)
 have C2:Hid (Calls _ _ _ _ _) := least_any T tv B w1 hsx1.tak (HT.out.keep hbw1 hg) HI.out.tw HI.out.tlen
 have HS1:Hid (StX w1 B sb most pb 1 dl dm pv tv C T sv wo M K) := hsx1
 have HF1:Hid (Frm w w1 (one1 sb)) := hf1w
 have HX1:Hid (stB w1 w.heap.size p tx q n c) := HX0.out.1.frm hf1 (show ¬ w.heap.size = sb by have := HB.out.2; omega)
 have c4 := hsx1.blk.cell.1.2.2.2
 have c0 := hsx1.blk.cell.1.1
 obtain ⟨pt,ct,rfl,_⟩ := owns_len hsx1.tak
 clear hsx1 hf1 hf1w hbw1 C1 HS0 HX0
 go_wp2_with fail
 refine C2.out.mono ?_
 rintro e w9 ⟨⟨s',rfl,hb1,hb2⟩,hw⟩
 rw [hw]
 have hss:s' = s := by
  have e1 := HI.out.bit s'
  have e2 := HI.out.bit s
  rw [hb1] at e1
  rw [HL.out.1] at e2
  rcases Nat.lt_trichotomy s' s with h | h | h
  ·rw [HL.out.2 s' h] at e1; cases e1
  ·exact h
  ·rw [hb2 s h] at e2; cases e2
 subst hss
 clear hw w9 C2 hb1 hb2
 have heq:((s':Int) == (most:Int)) = false := by
  rw [beq_eq_false_iff_ne]
  omega
 have hsT:s' / 64 ≤ T.length := by rw [HI.out.tl]; omega
 have C3:Hid (Calls _ _ _ _ _) := with_all T (.slice pt T.length ct) B s' w1 HS1.out.tak HS1.out.tnb HI.out.tw hsT HI.out.tlen (Nat.le_trans HS1.out.base (Nat.le_of_lt HS1.out.blk.lt))
 go_wp2_with fail
 refine C3.out.mono ?_
 rintro e w2 ⟨⟨v2,rfl,ho2,hn2,hv2⟩,hf2⟩
 obtain ⟨p2,c2,rfl,_⟩ := owns_len ho2
 have hk2 := HS1.out.blk.frm hf2 (fun e => HS1.out.sb_tv e rfl)
 have d4 := hk2.cell.1.2.2.2
 have z4 := hk2.cell.2 4
 have HK2:Hid (SBk w2 sb most pb 1 (.slice pt T.length ct) dl dm ∧ Frm w1 w2 (fun k => (Value.slice pt T.length ct).ownBlock = some k) ∧ OwnT w2 B (.slice p2 (onX T s').length c2) (onX T s') ∧ NB w2 (.slice p2 (onX T s').length c2) ∧ ((Value.slice p2 (onX T s').length c2).ownBlock = (Value.slice pt T.length ct).ownBlock ∨ ∃ g,(Value.slice p2 (onX T s').length c2).ownBlock = some g ∧ w1.heap.size ≤ g)) := ⟨hk2,hf2,ho2,hn2,hv2⟩
 clear ho2 hn2 hv2 hf2 hk2 C3 c4 c0
 go_upto_region 7 with fail
 have hf3:Frm w2 (w2.setCell ⟨sb,4,none⟩ (.slice p2 (onX T s').length c2)) (one1 sb) := frm_set w2 sb 4 _ (.inl rfl)
 have hf13:Frm w1 (w2.setCell ⟨sb,4,none⟩ (.slice p2 (onX T s').length c2)) (fun k => k = sb ∨ (Value.slice pt T.length ct).ownBlock = some k) := (HK2.out.2.1.mono (fun k hk => .inl (.inr hk))).trans hf3 (fun k hk => .inl (.inl hk))
 have hnb:∀ g,(Value.slice p2 (onX T s').length c2).ownBlock = some g → ¬ one1 sb g := fun g hg e => by
  have e':g = sb := e
  rcases HK2.out.2.2.2.2 with h | ⟨g',h,h'⟩
  ·exact HS1.out.sb_tv (h.symm.trans hg) e'
  ·have := HS1.out.blk.lt
   rw [h] at hg
   cases hg
   omega
 have hS3:StX (w2.setCell ⟨sb,4,none⟩ (.slice p2 (onX T s').length c2)) B sb most pb 1 dl dm pv (.slice p2 (onX T s').length c2) C (onX T s') sv wo M K := HS1.out.tkn2 hf13 (HK2.out.1.set4 ⟨_,_,_,rfl⟩) (owns_frm HK2.out.2.2.1 hf3 hnb) (HK2.out.2.2.2.1.frm hf3 (fun g hg => ⟨(World.ownsRow.lt HK2.out.2.2.1 g hg).2,hnb g hg⟩))
 have hst:∀ k,(k = sb ∨ (Value.slice pt T.length ct).ownBlock = some k) → stF sb dm pv (.slice pt T.length ct) C sv wo k := fun k hk => hk.elim .inl (fun e => .inr (.inl e))
 have HS3:Hid (StX (w2.setCell ⟨sb,4,none⟩ (.slice p2 (onX T s').length c2)) B sb most pb 1 dl dm pv (.slice p2 (onX T s').length c2) C (onX T s') sv wo M K) := hS3
 have HF3:Hid (Frm w (w2.setCell ⟨sb,4,none⟩ (.slice p2 (onX T s').length c2)) (stF sb dm pv (.slice pt T.length ct) C sv wo)) := (HF1.out.mono (fun k hk => .inl (.inl hk))).trans hf13 (fun k hk => .inl (hst k hk))
 have HI3:Hid (Imm w (w2.setCell ⟨sb,4,none⟩ (.slice p2 (onX T s').length c2))) := HS.out.imm HF3.out
 have HX3:Hid (stB (w2.setCell ⟨sb,4,none⟩ (.slice p2 (onX T s').length c2)) w.heap.size p tx q n c) := HX1.out.frm hf13 (fun e => by have := (HS.out.mut (hst _ e)).2.2; omega)
 have HU3:Hid (∀ k,stF sb dm pv (.slice p2 (onX T s').length c2) C sv wo k → stF sb dm pv (.slice pt T.length ct) C sv wo k ∨ w.heap.size ≤ k) := fun k hk => by
  rcases hk with h | h | h | h | h | h
  ·exact .inl (.inl h)
  ·rcases HK2.out.2.2.2.2 with h1 | ⟨g',h1,h'⟩
   ·exact .inl (.inr (.inl (h1.symm.trans h)))
   ·rw [h1] at h
    cases h
    exact .inr (Nat.le_trans HF1.out.size h')
  ·exact .inl (.inr (.inr (.inl h)))
  ·exact .inl (.inr (.inr (.inr (.inl h))))
  ·exact .inl (.inr (.inr (.inr (.inr (.inl h)))))
  ·exact .inl (.inr (.inr (.inr (.inr (.inr h)))))
 clear hf3 hf13 hnb hS3 hst HK2 HS1 HF1 HX1 d4 z4
 generalize w2.setCell ⟨sb,4,none⟩ (.slice p2 (onX T s').length c2) = w3 at *
 have C4:Hid (Calls _ _ _ _ _) := sload_any sb pb pv w3 HS3.out.blk.cell.1.2.1 HS3.out.plc.box
 have p0 := (show Box w3 pb #[pv] 105 from HS3.out.plc.box).cell0.1
 obtain ⟨pp,cc,hpv,_⟩ := owns_len HS3.out.plc.own
 subst hpv
 go_wp2_with fail
 refine C4.out.mono ?_
 rintro e w9 ⟨rfl,hw⟩
 rw [hw]
 clear hw w9 C4
 have hCl := HS3.out.plc.len
 have hsC:s' < C.length := by omega
 have HsC:Hid (s' < C.length ∧ addM M s' r = M.set s' r) := ⟨hsC,if_pos hsM⟩
 have hlt:((s':Int) < (C.length:Int)) := by omega
 obtain ⟨gp,cap,e2,_,hgl⟩ := owns_form HS3.out.plc.own (by omega)
 injection e2 with e3 e4 e5
 subst e3 e5
 clear e4
 have hc:C[s']? = some (C[s'].1,C[s'].2) := List.getElem?_eq_getElem hsC
 have a0:w3.cell? ⟨gp,s',none⟩ = some (ptr1 C[s'].1) := by
  rw [World.ownsRow.cellAt HS3.out.plc.own s' (by omega)]
  simp [hsC]
 have hmk:C[s'].2 ≤ K := HS3.out.plc.num _ (List.getElem_mem hsC)
 have hcb:stF sb dm (.slice (some ⟨gp,0,none⟩) C.length cc) (.slice pt T.length ct) C sv wo C[s'].1 := .inr (.inr (.inr (.inl ⟨_,List.getElem_mem hsC,rfl⟩)))
 obtain ⟨-,g,p9,q9,c9,hg1,hg2,hg3⟩ := HS3.out.plc.cel s' C[s'].1 C[s'].2 M[s'] hc (List.getElem?_eq_getElem hsM)
 generalize C[s'].1 = cb at *
 generalize C[s'].2 = m at *
 generalize M[s'].tx = tx9 at *
 generalize M[s'].W.length = n9 at *
 have HCb:Hid (stF sb dm (.slice (some ⟨gp,0,none⟩) C.length cc) (.slice pt T.length ct) C sv wo cb) := hcb
 have HFst:Hid ((C.set s' (cb,m + 1)).map Prod.fst = C.map Prod.fst) := fst_set hc
 have HC:Hid (C[s']? = some (cb,m)) := hc
 have C5:Hid (Calls _ _ _ _ _) := load_any cb g m 1 p9 tx9 q9 n9 c9 none w3 hg1 hg2
 clear hg1 hg2 hg3 hc hcb hCl
 go_wp2_with fail
 refine C5.out.mono ?_
 rintro e w4 ⟨rfl,hb4⟩
 obtain ⟨yX,yB,yS⟩ := one_new w4 #[.pointer p9,.int .i64 tx9,.slice q9 n9 c9] 125
 have hb5:Below w3.heap.size w3 (w4.alloc (.cells #[.pointer p9,.int .i64 tx9,.slice q9 n9 c9] 125)) := hb4.trans (yB.mono hb4.size)
 have HS5:Hid (StX (w4.alloc (.cells #[.pointer p9,.int .i64 tx9,.slice q9 n9 c9] 125)) B sb most pb 1 dl dm (.slice (some ⟨gp,0,none⟩) C.length cc) (.slice p2 (onX T s').length c2) C (onX T s') sv wo M (K + 1)) := (HS3.out.on hb5).mono (Nat.le_succ K)
 have HF5:Hid (Frm w (w4.alloc (.cells #[.pointer p9,.int .i64 tx9,.slice q9 n9 c9] 125)) (stF sb dm (.slice (some ⟨gp,0,none⟩) C.length cc) (.slice pt T.length ct) C sv wo)) := HF3.out.trans (Frm.of_below (F := none1) hb5) (fun k hk => hk.elim)
 have HX5:Hid (stB (w4.alloc (.cells #[.pointer p9,.int .i64 tx9,.slice q9 n9 c9] 125)) w.heap.size p tx q n c) := HX3.out.on hb5
 have HI5:Hid (Imm w (w4.alloc (.cells #[.pointer p9,.int .i64 tx9,.slice q9 n9 c9] 125))) := HI3.out.trans (Imm.of_below hb5)
 have a5:(w4.alloc (.cells #[.pointer p9,.int .i64 tx9,.slice q9 n9 c9] 125)).cell? ⟨gp,s',none⟩ = some (ptr1 cb) := (hb5.cell (p := ⟨gp,s',none⟩) hgl).trans a0
 clear hb4 hb5 yX yB yS C5 a0
 go_upto_region 10 with fail
 generalize (w4.alloc (.cells #[.pointer p9,.int .i64 tx9,.slice q9 n9 c9] 125)) = w5 at *
 obtain ⟨⟨x0,x1,x2⟩,_⟩ := box3 HX5.out
 have C6:Hid (Calls _ _ _ _ _) := putS s' cb m p q c r w5.drew (HS5.out.on (Below.refl _ _).drew) HC.out (HR.out.1.imm (imm_drew HI5.out)) (by omega) hK
 simp only [stV,HR.out.2.1,HR.out.2.2] at C6
 refine wp_region_noPanic ?_
 refine wp_region_any (by kernel_rfl) ?_
 change wpAny _ _ _ _ _ _ _ (World.drew _)
 refine tk (v := ?_) 0 rfl ?_ ?_
 rotate_left
 focus
  intro w9
  go_simp
  try with_reducible rfl
 try simp only [aP]
 refine tk (v := ?_) 1 rfl ?_ ?_
 rotate_left
 focus
  intro w9
  go_simp
  try with_reducible rfl
 try simp only [aP]
 refine tk (v := ?_) 2 rfl ?_ ?_
 rotate_left
 focus
  intro w9
  go_simp
  try with_reducible rfl
 try simp only [aP]
 refine tk (v := ?_) 4 rfl ?_ ?_
 rotate_left
 focus
  intro w9
  go_simp
  try with_reducible rfl
 try simp only [aP]
 refine wpAny_ready (rs := [3,5]) (by kernel_rfl) (by simp) ?_
 refine anyN_cons 3 rfl (by rfl) (fun K1 hK => ?_) (anyN_cons 5 rfl (by rfl) (fun K1 hK => ?_) AllReady.nil)
 ·go_simp
  refine hK.out _ _ ?_
  clear hK K1
  try simp only [aP]
  refine wpAny_ready (rs := [5]) (by kernel_rfl) (by simp) ?_
  refine anyN_cons 5 rfl (by rfl) (fun K1 hK => ?_) AllReady.nil
  go_simp
  refine hK.out _ _ ?_
  clear hK K1
  try simp only [aP]
  refine wpAny_ready (rs := [6]) (by kernel_rfl) (by simp) ?_
  refine anyN_cons 6 rfl (by rfl) (fun K1 hK => ?_) AllReady.nil
  go_simp
  refine C6.out.mono ?_
  rintro e w6 ⟨rfl,hs6,hf6⟩
  dsimp only
  have HS6:Hid (StX w6 B sb most pb 1 dl dm (.slice (some ⟨gp,0,none⟩) C.length cc) (.slice p2 (onX T s').length c2) (C.set s' (cb,m + 1)) (onX T s') sv wo (M.set s' r) (K + 1)) := hs6
  have HF6:Hid (Frm w w6 (stF sb dm (.slice (some ⟨gp,0,none⟩) C.length cc) (.slice pt T.length ct) C sv wo)) := HF5.out.drew.trans hf6 (fun k hk => .inl (by rw [hk]; exact HCb.out))
  clear hs6 hf6
  refine hK.out _ _ ?_
  clear hK K1
  try simp only [aP]
  refine wpAny_done (by kernel_rfl) ?_ _
  refine NoPanic.normal ?_
  go_wp2_with fail
  refine leaves_cons (f := 48) (args := #[.pointer (some ⟨sb,2,none⟩)]) (by simp) (by simp [go_sem]) ?_
  refine (unlockS .returning w6 HS6.out).mono ?_
  rintro e u' w7 ⟨rfl,rfl,hs7,hf7⟩
  refine ⟨_,results_tmp2 (t := 4) (u := 5) rfl _ _ _,?_⟩
  rw [HsC.out.2]
  refine ⟨rfl,⟨_,_,_,_,hs7,fun k hk => HU3.out k (stF_fst HFst.out hk)⟩,HF6.out.trans hf7 (fun k hk => .inl (.inl hk))⟩
 ·go_simp
  refine hK.out _ _ ?_
  clear hK K1
  try simp only [aP]
  refine wpAny_ready (rs := [3]) (by kernel_rfl) (by simp) ?_
  refine anyN_cons 3 rfl (by rfl) (fun K1 hK => ?_) AllReady.nil
  go_simp
  refine hK.out _ _ ?_
  clear hK K1
  try simp only [aP]
  refine wpAny_ready (rs := [6]) (by kernel_rfl) (by simp) ?_
  refine anyN_cons 6 rfl (by rfl) (fun K1 hK => ?_) AllReady.nil
  go_simp
  refine C6.out.mono ?_
  rintro e w6 ⟨rfl,hs6,hf6⟩
  dsimp only
  have HS6:Hid (StX w6 B sb most pb 1 dl dm (.slice (some ⟨gp,0,none⟩) C.length cc) (.slice p2 (onX T s').length c2) (C.set s' (cb,m + 1)) (onX T s') sv wo (M.set s' r) (K + 1)) := hs6
  have HF6:Hid (Frm w w6 (stF sb dm (.slice (some ⟨gp,0,none⟩) C.length cc) (.slice pt T.length ct) C sv wo)) := HF5.out.drew.trans hf6 (fun k hk => .inl (by rw [hk]; exact HCb.out))
  clear hs6 hf6
  refine hK.out _ _ ?_
  clear hK K1
  try simp only [aP]
  refine wpAny_done (by kernel_rfl) ?_ _
  refine NoPanic.normal ?_
  go_wp2_with fail
  refine leaves_cons (f := 48) (args := #[.pointer (some ⟨sb,2,none⟩)]) (by simp) (by simp [go_sem]) ?_
  refine (unlockS .returning w6 HS6.out).mono ?_
  rintro e u' w7 ⟨rfl,rfl,hs7,hf7⟩
  refine ⟨_,results_tmp2 (t := 4) (u := 5) rfl _ _ _,?_⟩
  rw [HsC.out.2]
  refine ⟨rfl,⟨_,_,_,_,hs7,fun k hk => HU3.out k (stF_fst HFst.out hk)⟩,HF6.out.trans hf7 (fun k hk => .inl (.inl hk))⟩

end

end Go.Proofs.YtcibcfghkidncaaGreatDoor

namespace Go.Proofs.YtcibcfghkidncaaGreatDoor
open Go.RowKit Go.Lib Go.Maps
set_option maxRecDepth 100000

def newR (txn:Int) (v:Rw):Rs := ⟨[],txn,putL txn [] v⟩
theorem newR_wri (txn:Int) (v:Rw):newR txn v = wriR nilR txn v := by
 unfold newR wriR wrW
 split <;> rfl
theorem thr_tx {r:Rs} (h:thr r = false):r.tx = 0 := by
 by_cases e:r.tx = 0
 ·exact e
 ·rw [tx_thr e] at h
  cases h
theorem InvW.addM {M:List Rs} {wo:Int → List Nat} (h:InvW M wo) {s:Nat} {r:Rs} {t:Int} (hs:s ≤ M.length) (h0:∀ r',M[s]? = some r' → r'.tx = 0) (ht:r.tx = t) (htn:t ≠ 0):InvW (addM M s r) (updI wo t (wo t ++ [s])) := by
 have hni:s ∉ wo t := fun e => by
  obtain ⟨h1,r',hr,e2⟩ := (h.mem t s).1 e
  rw [h0 r' hr] at e2
  exact h1 e2.symm
 refine ⟨fun t' => ?_,fun t' x => ?_⟩
 ·by_cases e:t' = t
  ·rw [e,updI_same]
   refine List.nodup_append.2 ⟨h.nod t,by simp,fun a ha b hb e2 => ?_⟩
   rw [List.mem_singleton] at hb
   subst hb e2
   exact hni ha
  ·rw [updI_ne _ _ e]; exact h.nod t'
 ·rw [addM_at hs]
  by_cases e:t' = t
  ·subst e
   rw [updI_same,List.mem_append,List.mem_singleton,h.mem t' x]
   by_cases es:x = s
   ·subst es
    simp [ht,htn]
   ·simp [es]
  ·rw [updI_ne _ _ e,h.mem t' x]
   by_cases es:x = s
   ·subst es
    rw [if_pos rfl]
    simp only [Option.some.injEq,exists_eq_left']
    constructor
    ·rintro ⟨a,r',b,c⟩
     exact absurd (c.symm.trans (h0 r' b)) a
    ·rintro ⟨a,b⟩
     exact absurd (b.symm.trans ht) e
   ·rw [if_neg es]
section
variable {B sb most pb:Nat} {dl:Nat → Int} {dm:Nat → Option Nat} {pv tv:Value} {C:List (Nat × Nat)} {T:List Nat} {sv:Int → Value} {wo:Int → List Nat} {M:List Rs} {K J:Nat}
theorem least_le {M:List Rs} {s:Nat} (h:∀ j,j < s → thrAt M j = true):s ≤ M.length := by
 rcases Nat.lt_or_ge M.length s with h1 | h1
 ·have := h M.length h1
  unfold thrAt at this
  rw [List.getElem?_eq_none (Nat.le_refl _)] at this
  cases this
 ·exact h1
theorem take_room (p q:Option Addr) (c s:Nat) (r:Rs) (w:World) (h:StX w B sb most pb 0 dl dm pv tv C T sv wo M K) (hI:InvT J most M T) (hT:Tab w) (hg : 1 < B) (hs:StR w p q c r) (hs1:thrAt M s = false) (hs2:∀ j,j < s → thrAt M j = true) (hm:s < most) (hK:K + 1 ≤ 9000000000000000000) :
  Calls Tryz.prog 57 #[ptr1 sb,stV p q c r] w fun e w' => e = .returned (.tuple #[.int .i64 (s:Nat),.int .i64 0]) ∧ (∃ pb' pv' tv' C',StX w' B sb most pb' 0 dl dm pv' tv' C' (onX T s) sv wo (addM M s r) (K + 1) ∧ ∀ k,stF sb dm pv' tv' C' sv wo k → stF sb dm pv tv C sv wo k ∨ w.heap.size ≤ k) ∧ Frm w w' (stF sb dm pv tv C sv wo) := by
 rcases Nat.lt_or_ge s M.length with hl | hl
 ·exact take_old p q c s r w h hI hT hg hs hs1 hs2 hm hl hK
 ·have := least_le hs2
  exact take_new p q c s r w h hI hT hg hs hs1 hs2 hm (by omega)
end

set_option maxHeartbeats 4000000 in
theorem add_gone (B sb most K J:Nat) (M:List Rs) (F:Nat → Prop) (txn vn:Int) (vg:Bool) (vr:List Vl) (qv:Option Addr) (cv:Nat) (w:World) (h:Sto w B sb most M K J F) (hv:vg = true) :
  Calls Tryz.prog 19 #[ptr1 sb,.int .i64 txn,.agg #[.int .i64 vn,.bool vg,.slice qv vr.length cv]] w fun e w' => e = .returned (.tuple #[.int .i64 0,.int .i64 1]) ∧ Sto w' B sb most M K J F ∧ Frm w w' F := by
 subst hv
 have HB:Hid (Below w.heap.size w (w.alloc (.cells #[.int .i64 vn,.bool true,.slice qv vr.length cv] 38))) := (Below.refl _ _).alloc (Nat.le_refl _) _
 have HS:Hid (Sto w B sb most M K J F) := h
 clear h
 go_enter Tryz.func19,Tryz.ntmps19
 go_wp2_with fail
 go_ret2
 obtain ⟨pb,dl,dm,pv,tv,C,T,sv,wo,h1,h2,h3,h4,h5⟩ := HS.out
 exact ⟨rfl,⟨pb,dl,dm,pv,tv,C,T,sv,wo,h1.on HB.out,h2,h3,h4,h5⟩,Frm.of_below HB.out⟩

set_option maxHeartbeats 4000000 in
theorem add_bad (B sb most K J:Nat) (M:List Rs) (F:Nat → Prop) (txn vn:Int) (vg:Bool) (vr:List Vl) (qv:Option Addr) (cv:Nat) (w:World) (h:Sto w B sb most M K J F) (hv:vg = false) (hV:SlV w w.heap.size (.slice qv vr.length cv) vr) (hvr:vr.length ≤ 3518437208882) (hb:putB txn [] ⟨vn,false,vr⟩ = true) :
  Calls Tryz.prog 19 #[ptr1 sb,.int .i64 txn,.agg #[.int .i64 vn,.bool vg,.slice qv vr.length cv]] w fun e w' => e = .returned (.tuple #[.int .i64 0,.int .i64 1]) ∧ Sto w' B sb most M K J F ∧ Frm w w' F := by
 subst hv
 obtain ⟨pb,dl,dm,pv,tv,C,T,sv,wo,hX,hd0,hI,hW,hF⟩ := h
 obtain ⟨bX,bB,bS⟩ := one_new w #[.int .i64 vn,.bool false,.slice qv vr.length cv] 38
 have HB0:Hid (Below w.heap.size w (w.alloc (.cells #[.int .i64 vn,.bool false,.slice qv vr.length cv] 38))) := bB
 have C1:Hid (Calls _ _ _ _ _) := put_any [] none 0 txn vn false vr qv cv (w.alloc (.cells #[.int .i64 vn,.bool false,.slice qv vr.length cv] 38)) (RdR.nil _ _ _) (hV.imm (Imm.of_below bB)) (by simp) (fun i hi => absurd hi (by simp)) hvr
 have HS:Hid (StX w B sb most pb 0 dl dm pv tv C T sv wo M K) := hX
 have HF:Hid (∀ k,F k ↔ stF sb dm pv tv C sv wo k) := hF
 have HW:Hid (InvW M wo) := hW
 have HI:Hid (InvT J most M T) := hI
 have HD0:Hid (∀ d,dl d = 0) := hd0
 obtain ⟨⟨x0,x1,x2⟩,_⟩ := box3 bX
 clear hX hI hW hF hd0 bX bB bS hV
 have hE:putE txn [] ⟨vn,false,vr⟩ = 1 := if_pos hb
 rw [hE] at C1
 generalize putT txn [] ⟨vn,false,vr⟩ = tx1 at *
 generalize hvl:vr.length = vl at *
 clear hE hb hvl
 go_enter Tryz.func19,Tryz.ntmps19
 go_wp2_with fail
 refine C1.out.mono ?_
 rintro e w1 ⟨⟨v1,Z1,rfl,hZ1,hO1⟩,hb1⟩
 obtain ⟨q1,c1,rfl,_,_⟩ := hO1.st hZ1
 have HB1:Hid (Below w.heap.size w w1) := HB0.out.trans (hb1.mono HB0.out.size)
 have HB2:Hid (∀ cs,Below w.heap.size w (w1.alloc (.cells cs 75))) := fun cs => HB1.out.trans (((Below.refl _ _).alloc (Nat.le_refl _) _).mono HB1.out.size)
 generalize (putL txn [] ⟨vn,false,vr⟩).length = n1 at *
 clear hO1 hZ1 hb1
 go_wp2_with fail
 go_ret2
 exact ⟨rfl,⟨pb,dl,dm,pv,tv,C,T,sv,wo,HS.out.on (HB2.out _),HD0.out,HI.out,HW.out,HF.out⟩,Frm.of_below (HB2.out _)⟩

end Go.Proofs.YtcibcfghkidncaaGreatDoor

namespace Go.Proofs.YtcibcfghkidncaaGreatDoor
open Go.RowKit Go.Lib
set_option maxRecDepth 100000

def FreeAt (L:List (Nat × Rs)) (s:Nat):Prop := s ≤ L.length ∧ (∀ m q,m < s → L[m]? = some q → q.1 = m) ∧ ∀ q,L[s]? = some q → q.1 ≠ s
theorem FreeAt.of {L:List (Nat × Rs)} {s:Nat} (h1:s ≤ L.length) (h2:∀ m (hm:m < L.length),m < s → L[m].1 = m) (h3:∀ h:s < L.length,L[s].1 ≠ s):FreeAt L s := by
 refine ⟨h1,fun m q hm hq => ?_,fun q hq => ?_⟩
 ·obtain ⟨hl,rfl⟩ := List.getElem?_eq_some_iff.1 hq
  exact h2 m hl hm
 ·obtain ⟨hl,rfl⟩ := List.getElem?_eq_some_iff.1 hq
  exact h3 hl

set_option maxHeartbeats 16000000 in
theorem addD_ok (B most:Nat) (v:Value) (L:List (Nat × Rs)) (txn vn:Int) (vg:Bool) (vr:List Vl) (qv:Option Addr) (cv:Nat) (w:World) (h:DocS w B v L) (hV:SlV w w.heap.size (.slice qv vr.length cv) vr) (hp:putB txn [] ⟨vn,vg,vr⟩ = false) (hg:vg = false) (hl:L.length ≤ 65536) (hm:L.length < most) (hB:B ≤ w.heap.size) :
  Calls Tryz.prog 23 #[.agg #[.int .i64 (most:Nat),v],.int .i64 txn,.agg #[.int .i64 vn,.bool vg,.slice qv vr.length cv]] w fun e w' => (∃ v' s,e = .returned (.tuple #[.agg #[.int .i64 (most:Nat),v'],.int .i64 (s:Nat),.int .i64 0]) ∧ FreeAt L s ∧ DocS w' B v' (L.take s ++ (s,newR txn ⟨vn,vg,vr⟩) :: L.drop s)) ∧ Below w.heap.size w w' := by
 subst hg
 obtain ⟨p,c,rfl,_⟩ := h.len
 have HV:Hid (SlV w w.heap.size (.slice qv vr.length cv) vr) := hV
 have H0 := WB.start w most (.slice p L.length c) vn false qv vr.length cv
 have C1:Hid (Calls _ _ _ _ _) := rput_any [] none 0 txn vn false vr qv cv _ (RdR.nil _ _ _) (hV.imm (Imm.of_below H0.bel)) (by simp)
 have HB0:Hid (WB _ _ _ _ _ _ _ _ _) := H0
 have HD:Hid (DocS w B (.slice p L.length c) L) := h
 clear h hV H0
 obtain ⟨n,hn⟩:∃ n,L.length = n := ⟨_,rfl⟩
 rw [hn] at HD HB0 C1 hl hm
 rw [hn]
 have HN:Hid (L.length = n) := hn
 clear hn
 obtain ⟨nv,hnv⟩:∃ nv,vr.length = nv := ⟨_,rfl⟩
 rw [hnv] at HB0 C1
 rw [hnv]
 have HNv:Hid (vr.length = nv) := hnv
 clear hnv
 go_enter Tryz.func23,Tryz.ntmps23
 go_upto_region 1 with fail
 generalize (((w.alloc (.cells #[.int .i64 (most:Nat),.slice p n c] 29)).alloc (.cells #[.int .i64 vn,.bool false,.slice qv nv cv] 38)).alloc (.cells #[.int .i64 0,.slice none 0 0] 29)) = w0 at *
 obtain ⟨q0,q1,⟨q2,q3,q4⟩,_⟩ := HB0.out.cells
 go_wp2_with fail
 refine C1.out.mono ?_
 rintro e w1 ⟨⟨vz,Zz,rfl,hZ,hH⟩,hb1⟩
 obtain ⟨pz,cz,rfl,_,hrz⟩ := hH.rd hb1.size hZ
 have HB1 := HB0.out.on hb1
 obtain ⟨bN,bB,bS⟩ := one_new w1 #[.int .i64 (putT txn [] ⟨vn,false,vr⟩),.slice pz (putL txn [] ⟨vn,false,vr⟩).length cz] 75
 have HB2:Hid (WB _ _ _ _ _ _ _ _ _) := HB1.on bB
 have HN2:Hid (Box _ _ _ _) := bN
 have SZ2:Hid (SlR .i64 _ (.slice pz (putL txn [] ⟨vn,false,vr⟩).length cz) (putL txn [] ⟨vn,false,vr⟩)) := SlR.imm (w := w1) ⟨pz,cz,rfl,hrz,fun h => by cases h⟩ (Imm.of_below bB)
 have HS2:Hid ((w1.alloc (.cells #[.int .i64 (putT txn [] ⟨vn,false,vr⟩),.slice pz (putL txn [] ⟨vn,false,vr⟩).length cz] 75)).heap.size = w1.heap.size + 1 ∧ w.heap.size + 3 ≤ w1.heap.size) := ⟨bS,HB1.hB⟩
 clear q0 q1 q2 q3 q4 C1 hZ hH hb1 bN bB bS HB1 hrz HB0
 obtain ⟨e1,e2,e3⟩ := put_ok hp
 rw [e1,e2]
 rw [e2] at HB2 HN2 SZ2 HS2
 obtain ⟨nz,hnz⟩:∃ nz,(putL txn [] ⟨vn,false,vr⟩).length = nz := ⟨_,rfl⟩
 rw [hnz] at HB2 HN2 SZ2 HS2
 rw [hnz]
 clear hnz e1 e2 e3 hp
 go_upto_region 2 with fail
 generalize (w1.alloc (.cells #[.int .i64 txn,.slice pz nz cz] 75)) = w2 at *
 have hm2:¬ ((most:Nat):Int) ≤ ((n:Nat):Int) := by omega
 have hm3:¬ most ≤ n := by omega
 obtain ⟨q0,q1,⟨q2,q3,q4⟩,q5,q6,q7,q8⟩ := HB2.out.cells
 go_wp2_with fail
 go_loopw [11] (fun i wq => ∃ (j:Nat),j ≤ n ∧ i = .int .i64 (j:Int) ∧ wq = w2 ∧ Hid (∀ m (hm:m < L.length),m < j → L[m].1 = m)) (fun i _ => n - (intOf i).toNat)
 case atStart => exact ⟨0,Nat.zero_le _,by go_num,rfl,fun m _ h => absurd h (by omega)⟩
 case round =>
  obtain ⟨s,hs,rfl,hw,HM⟩ := hrel
  rw [hw]
  clear hw
  have hcase:(∃ (h:s < L.length),L[s].1 = s) ∨ ((∀ h:s < L.length,L[s].1 ≠ s)) := by
   by_cases h:s < L.length
   ·by_cases h2:L[s].1 = s
    ·exact .inl ⟨h,h2⟩
    ·exact .inr fun _ => h2
   ·exact .inr fun h2 => absurd h2 h
  rcases hcase with ⟨hj1,hsl⟩ | hend
  ·obtain ⟨⟨k,rL,tx,rW⟩,hq⟩:∃ q,L[s] = q := ⟨_,rfl⟩
   have HM2:Hid (∀ m (hm:m < L.length),m < s + 1 → L[m].1 = m) := fun m hm h => by
    by_cases e:m = s
    ·subst e; exact hsl
    ·exact HM.out m hm (by omega)
   obtain ⟨g,pl,cl,pw,cw,e,⟨a0,a1,a2,a3⟩,SL,SW⟩ := HD.out.row HB2.out.bel hj1 hq
   subst e
   rw [hq] at hsl
   have hk:k = s := hsl
   subst hk
   have hkn:k < n := by rw [← HN.out]; exact hj1
   clear hq hj1 SL SW hsl
   go_wp2_with fail
   go_roundw
   case rel => exact ⟨k + 1,by omega,by go_num,by simp,HM2⟩
   case measure => simp [intOf]; omega
  ·have HEnd:Hid (∀ h:s < L.length,L[s].1 ≠ s) := hend
   have HDn:Hid (DocS w B (.slice p n c) L) := HD.out
   obtain ⟨bO,bB,bS⟩ := one_new w2 #[.int .i64 (most:Nat),.slice none 0 0] 29
   have HL3:Hid (DL w _ _ most (.slice p n c) (.slice none 0 0) [] w.heap.size (w.heap.size + 1 + 1) w2.heap.size) := ⟨HB2.out.bel.trans (bB.mono HB2.out.bel.size),HB2.out.s.on bB,HB2.out.r.on bB,bO,DocN.nil _ _,by have h1 := HB2.out.hB; rw [bS]; omega,Nat.le_refl _⟩
   have HI3:Hid (Box _ w1.heap.size #[.int .i64 txn,.slice pz nz cz] 75) := HN2.out.on bB
   have HV3:Hid (ImV w2 _) := ImV.of_below bB
   have HS3:Hid ((w2.alloc (.cells #[.int .i64 (most:Nat),.slice none 0 0] 29)).heap.size = w2.heap.size + 1) := bS
   clear bO bB bS
   have hsplit:(s = n) ∨ (∃ (h:s < L.length),L[s].1 ≠ s) := by
    by_cases e:s = n
    ·exact .inl e
    ·have h9:s < L.length := by rw [HN.out]; omega
     exact .inr ⟨h9,HEnd.out h9⟩
   clear hend
   rcases hsplit with e | ⟨hj1,hne⟩
   ·have hsn:¬ ((s:Nat):Int) < ((n:Nat):Int) := by omega
    clear e
    go_upto_region 10 with fail
    generalize (w2.alloc (.cells #[.int .i64 (most:Nat),.slice none 0 0] 29)) = w3 at *
    clear q0 q1 q2 q3 q4 q5 q6 q7 q8
    go_wp2_with fail
    go_loopw [13] (fun i wq => ∃ (j:Nat) (u:Value),j ≤ s ∧ i = .int .i64 (j:Int) ∧ Hid (DL w wq w3.heap.size most (.slice p n c) u (L.take j) w.heap.size (w.heap.size + 1 + 1) w2.heap.size) ∧ Hid (Box wq w1.heap.size #[.int .i64 txn,.slice pz nz cz] 75) ∧ Hid (ImV w2 wq)) (fun i _ => s - (intOf i).toNat)
    case atStart => exact ⟨0,_,Nat.zero_le _,by go_num,HL3,HI3,HV3⟩
    case round =>
     obtain ⟨j,u,hj,rfl,HL,HI,HV2⟩ := hrel
     obtain ⟨s0,s1,o0,o1,o2,r0,r1,_,_⟩ := HL.out.cells
     have HA:Hid ((L.take j).length ≤ 65536) := by show _ ≤ _; rw [List.length_take,HN.out]; omega
     obtain ⟨pu,nu,cu,e9⟩:∃ pu nu cu,u = .slice pu nu cu := by
      obtain ⟨pu,cu,e9,_⟩ := HL.out.len
      exact ⟨pu,_,cu,e9⟩
     subst e9
     by_cases hj0:j = s
     ·have hj1 := hj0.symm
      clear hj0
      subst hj1
      have hjs:¬ ((s:Nat):Int) < ((s:Nat):Int) := by omega
      obtain ⟨i0,i1,_,_⟩ := box2 HI.out
      have HZ:Hid (SlR .i64 wr (.slice pz nz cz) (putL txn [] ⟨vn,false,vr⟩)) := SZ2.out.imv HV2.out
      have HNil:Hid (SlR .u64 wr (.slice none 0 0) []) := SlR.nil _ _
      have hb2 := HL.out.hB
      go_upto_region 15 with (first | (at_builtin; go_loud (refine wpList_doc wr rfl (.tmp 72) (.tmp 76) rfl w3.heap.size _ _ (by rfl) HL.out.d s ⟨[],txn,(putL txn [] ⟨vn,false,vr⟩)⟩ _ _ HNil.out HZ.out _ rfl (by simp) HA.out hb2 ?_); intro v6 w6 d6 g6 f6 i6; obtain ⟨k1,k2⟩ := HL.out.o6 f6; obtain ⟨p6,n6,c6,e6⟩:∃ p6 n6 c6,v6 = .slice p6 n6 c6 := (by obtain ⟨p6,c6,e6,_⟩ := d6.1.len; exact ⟨p6,_,c6,e6⟩); subst e6; clear g6))
      have HL7:Hid (DL w _ _ _ _ _ _ _ _ _) := HL.out.app d6 f6
      clear HL HI HV2 HZ HNil HA s0 s1 o0 o1 o2 r0 r1 i0 i1 k1 k2 d6 f6 i6 hb2 hjs
      generalize (w6.setCell ⟨w2.heap.size,1,none⟩ (.slice p6 n6 c6)) = w7 at *
      go_wp2_with fail
      go_loopw [14] (fun i wq => ∃ (m:Nat) (u:Value),s ≤ m ∧ m ≤ n ∧ i = .int .i64 (m:Int) ∧ Hid (DL w wq w3.heap.size most (.slice p n c) u (L.take s ++ [(s,newR txn ⟨vn,false,vr⟩)] ++ (L.take m).drop s) w.heap.size (w.heap.size + 1 + 1) w2.heap.size)) (fun i _ => n - (intOf i).toNat)
      case atStart => exact ⟨s,_,Nat.le_refl _,hs,by go_num,by rw [List.drop_of_length_le (by rw [List.length_take]; omega),List.append_nil]; exact HL7⟩
      case round =>
       obtain ⟨j,u,hsj,hj2,rfl,HL⟩ := hrel
       obtain ⟨s0,s1,o0,o1,o2,r0,r1,_,_⟩ := HL.out.cells
       obtain ⟨pu,nu,cu,e9⟩:∃ pu nu cu,u = .slice pu nu cu := by
        obtain ⟨pu,cu,e9,_⟩ := HL.out.len
        exact ⟨pu,_,cu,e9⟩
       subst e9
       by_cases hj0:j = n
       ·have HL2:Hid (DL w wr w3.heap.size most (.slice p n c) (.slice pu nu cu) (L.take s ++ [(s,newR txn ⟨vn,false,vr⟩)] ++ L.drop s) w.heap.size (w.heap.size + 1 + 1) w2.heap.size) := by
         have h1 := HL.out
         rw [hj0,← HN.out,List.take_length,HN.out] at h1
         exact h1
        have hjn:¬ ((j:Nat):Int) < ((n:Nat):Int) := by omega
        clear HL hj0
        go_wp2_with fail
        obtain ⟨f0,f1,fd,fb⟩ := HL2.out.fin (by have h8 := HS3.out; have h9 := HS2.out; omega)
        generalize (wr.setCell ⟨w.heap.size + 1 + 1,0,none⟩ (.int .i64 (most:Nat))).setCell ⟨w.heap.size + 1 + 1,1,none⟩ (.slice pu nu cu) = w9 at *
        (try simp only [Exit.inBlock,Exit.then])
        refine bodyPost_ret (v := .tuple #[.agg #[.int .i64 (most:Nat),.slice pu nu cu],.int .i64 (s:Nat),.int .i64 0]) (by simp [results,Tryz.results23,go_sem,f0,f1]) rfl ?_
        rw [show (L.take s ++ [(s,newR txn ⟨vn,false,vr⟩)] ++ L.drop s) = L.take s ++ (s,newR txn ⟨vn,false,vr⟩) :: L.drop s by simp] at fd
        exact ⟨⟨_,s,rfl,FreeAt.of (by rw [HN.out]; exact hs) HM.out HEnd.out,fd.base hB⟩,fb⟩
       ·have hj1:j < L.length := by rw [HN.out]; omega
        have hjn:j < n := by omega
        exfalso
        omega
     ·have hj1:j < L.length := by rw [HN.out]; omega
      have hjn:j < n := by omega
      obtain ⟨⟨k,rL,tx,rW⟩,hq⟩:∃ q,L[j] = q := ⟨_,rfl⟩
      have HSt:Hid ((L.take (j + 1)) = (L.take j) ++ [(k,⟨rL,tx,rW⟩)]) := by
       show _ = _
       rw [List.take_add_one,List.getElem?_eq_getElem hj1,hq]
       rfl
      obtain ⟨g,pl,cl,pw,cw,e,⟨a0,a1,a2,a3⟩,SL,SW⟩ := HL.out.row HD.out hj1 hq
      subst e
      clear hq hj1
      generalize rL.length = nl at *
      generalize rW.length = nw at *
      have bB:Below wr.heap.size wr (wr.alloc (.cells #[.int .i64 (k:Nat),.slice pl nl cl,.int .i64 tx,.slice pw nw cw] 77)).drew := ((Below.refl _ _).alloc (Nat.le_refl _) _).drew
      have HBd:Hid (Box (wr.alloc (.cells #[.int .i64 (k:Nat),.slice pl nl cl,.int .i64 tx,.slice pw nw cw] 77)).drew wr.heap.size #[.int .i64 (k:Nat),.slice pl nl cl,.int .i64 tx,.slice pw nw cw] 77) := Box.new wr _ _
      have HLd:Hid (DL w (wr.alloc (.cells #[.int .i64 (k:Nat),.slice pl nl cl,.int .i64 tx,.slice pw nw cw] 77)).drew _ _ _ _ _ _ _ _) := HL.out.on bB
      have SLd:Hid (SlR .u64 (wr.alloc (.cells #[.int .i64 (k:Nat),.slice pl nl cl,.int .i64 tx,.slice pw nw cw] 77)).drew _ _) := SL.imm (Imm.of_below bB)
      have SWd:Hid (SlR .i64 (wr.alloc (.cells #[.int .i64 (k:Nat),.slice pl nl cl,.int .i64 tx,.slice pw nw cw] 77)).drew _ _) := SW.imm (Imm.of_below bB)
      have hbd := HLd.out.hB
      have HFin:Hid (∀ v6 w6,DocN w6 w3.heap.size v6 ((L.take j) ++ [(k,⟨rL,tx,rW⟩)]) → Frm (wr.alloc (.cells #[.int .i64 (k:Nat),.slice pl nl cl,.int .i64 tx,.slice pw nw cw] 77)).drew w6 (fun g => (Value.slice pu nu cu).ownBlock = some g) → (∃ p6 n6 c6,v6 = .slice p6 n6 c6) ∧ w6.cell? ⟨w2.heap.size,1,none⟩ = some (.slice pu nu cu) ∧ w6.frozen? ⟨w2.heap.size,1,none⟩ = false ∧ DL w (w6.setCell ⟨w2.heap.size,1,none⟩ v6) w3.heap.size most (.slice (some ⟨g,0,none⟩) n c) v6 ((L.take j) ++ [(k,⟨rL,tx,rW⟩)]) w.heap.size (w.heap.size + 1 + 1) w2.heap.size ∧ Box (w6.setCell ⟨w2.heap.size,1,none⟩ v6) w1.heap.size #[.int .i64 txn,.slice pz nz cz] 75 ∧ ImV w2 (w6.setCell ⟨w2.heap.size,1,none⟩ v6)) := fun v6 w6 d6 f6 => by
       obtain ⟨z1,z2,z3,z4⟩ := HLd.out.fins v6 w6 d6 f6
       exact ⟨z1,z2,z3,z4,HLd.out.box f6 (HI.out.on bB) (by have h8 := HS2.out.1; have h9 := HS3.out; omega) (by have h8 := HS2.out.1; omega),(HV2.out.trans (ImV.of_below bB)).trans (HLd.out.imv f6)⟩
      obtain ⟨_,_,_,m1,_⟩ := (HL.out.on ((Below.refl _ _).alloc (Nat.le_refl _) (.cells #[.int .i64 (k:Nat),.slice pl nl cl,.int .i64 tx,.slice pw nw cw] 77))).cells
      clear bB SL SW
      have hjs:((j:Nat):Int) < ((s:Nat):Int) := by omega
      go_upto_region 13 with fail
      refine wp_region_any (by kernel_rfl) ?_
      change wpAny _ _ _ _ _ _ _ (World.drew _)
      refine tk (v := ?_) 0 rfl ?_ ?_
      rotate_left
      focus
       intro w9
       go_simp
       try with_reducible rfl
      try simp only [aP]
      refine tk (v := ?_) 2 rfl ?_ ?_
      rotate_left
      focus
       intro w9
       go_simp
       try with_reducible rfl
      try simp only [aP]
      refine tk (v := ?_) 4 rfl ?_ ?_
      rotate_left
      focus
       intro w9
       go_simp
       try with_reducible rfl
      try simp only [aP]
      apply laterI4 (α0 := World) (α1 := Option Addr) (α2 := Nat) (α3 := Nat)
      intro hs1_3_6_7_8
      apply later0
      intro hs1_3_6_7
      apply later0
      intro hs3_6_7
      apply later0
      intro hs1_3_6
      apply later0
      intro hs3_6
      apply later0
      intro hs1_3
      apply later0
      intro hs3
      apply later0
      intro hs1
      ·refine wpAny_ready (rs := [1,3]) (by kernel_rfl) (by simp) ?_
       refine anyN_cons 1 rfl (by rfl) (fun K hK => ?_) (anyN_cons 3 rfl (by rfl) (fun K hK => ?_) AllReady.nil)
       ·go_simp
        refine hK.out _ _ ?_
        clear hK K
        try simp only [aP]
        exact hs1
       ·go_simp
        refine hK.out _ _ ?_
        clear hK K
        try simp only [aP]
        refine tk (v := ?_) 5 rfl ?_ ?_
        rotate_left
        focus
         intro w9
         go_simp
         try with_reducible rfl
        try simp only [aP]
        exact hs3
      ·refine wpAny_ready (rs := [3]) (by kernel_rfl) (by simp) ?_
       refine anyN_cons 3 rfl (by rfl) (fun K hK => ?_) AllReady.nil
       go_simp
       refine hK.out _ _ ?_
       clear hK K
       try simp only [aP]
       refine tk (v := ?_) 5 rfl ?_ ?_
       rotate_left
       focus
        intro w9
        go_simp
        try with_reducible rfl
       try simp only [aP]
       exact hs1_3
      ·refine wpAny_ready (rs := [1,6]) (by kernel_rfl) (by simp) ?_
       refine anyN_cons 1 rfl (by rfl) (fun K hK => ?_) (anyN_cons 6 rfl (by rfl) (fun K hK => ?_) AllReady.nil)
       ·go_simp
        refine hK.out _ _ ?_
        clear hK K
        try simp only [aP]
        exact hs1_3
       ·go_simp
        refine hK.out _ _ ?_
        clear hK K
        try simp only [aP]
        exact hs3_6
      ·refine wpAny_ready (rs := [6]) (by kernel_rfl) (by simp) ?_
       refine anyN_cons 6 rfl (by rfl) (fun K hK => ?_) AllReady.nil
       go_simp
       refine hK.out _ _ ?_
       clear hK K
       try simp only [aP]
       exact hs1_3_6
      ·refine wpAny_ready (rs := [1,7]) (by kernel_rfl) (by simp) ?_
       refine anyN_cons 1 rfl (by rfl) (fun K hK => ?_) (anyN_cons 7 rfl (by rfl) (fun K hK => ?_) AllReady.nil)
       ·go_simp
        refine hK.out _ _ ?_
        clear hK K
        try simp only [aP]
        exact hs1_3_6
       ·go_simp
        refine hK.out _ _ ?_
        clear hK K
        try simp only [aP]
        exact hs3_6_7
      ·refine wpAny_ready (rs := [7]) (by kernel_rfl) (by simp) ?_
       refine anyN_cons 7 rfl (by rfl) (fun K hK => ?_) AllReady.nil
       go_simp
       refine hK.out _ _ ?_
       clear hK K
       try simp only [aP]
       exact hs1_3_6_7
      ·refine wpAny_ready (rs := [1]) (by kernel_rfl) (by simp) ?_
       refine anyN_cons 1 rfl (by rfl) (fun K hK => ?_) AllReady.nil
       go_simp
       refine hK.out _ _ ?_
       clear hK K
       try simp only [aP]
       exact hs1_3_6_7
      ·refine wpAny_ready (rs := [8]) (by kernel_rfl) (by simp) ?_
       refine anyN_cons 8 rfl (by rfl) (fun K hK => ?_) AllReady.nil
       refine wp_doc (wr.alloc (.cells #[.int .i64 (k:Nat),.slice pl nl cl,.int .i64 tx,.slice pw nw cw] 77)).drew (.tmp 62) (.tmp 68) rfl w3.heap.size _ _ (by simp only [Act.eval]; rfl) HLd.out.d k ⟨rL,tx,rW⟩ _ _ SLd.out SWd.out wr.heap.size (by simp only [Act.eval]; rfl) HBd.out HA.out hbd ?_
       intro v6 w6 d6 f6
       obtain ⟨⟨p6,n6,c6,e6⟩,k1,k2,hl6,kb6,ki6⟩ := HFin.out v6 w6 d6 f6
       subst e6
       clear d6 f6
       have HQ:Hid (_ ∧ _ ∧ _ ∧ _ ∧ _) := ⟨k1,k2,hl6,kb6,ki6⟩
       clear k1 k2 hl6 kb6 ki6
       refine hK.out _ _ ?_
       clear hK K
       try simp only [aP]
       refine tk (v := ?_) 9 rfl ?_ ?_
       rotate_left
       focus
        intro w9
        go_simp
        try with_reducible rfl
       try simp only [aP]
       exact hs1_3_6_7_8 w6 p6 n6 c6 HQ
      ·intro w6 p6 n6 c6 HQ
       obtain ⟨k1,k2,hl6,kb6,ki6⟩ := HQ.out
       refine wpAny_ready (rs := [10]) (by kernel_rfl) (by simp) ?_
       refine anyN_cons 10 rfl (by rfl) (fun K hK => ?_) AllReady.nil
       go_simp
       refine hK.out _ _ ?_
       clear hK K
       try simp only [aP]
       refine wpAny_done (by kernel_rfl) ?_ _
       go_wp2_with fail
       go_roundw
       case rel => exact ⟨j + 1,_,by omega,by go_num,by rw [HSt.out]; exact hl6,kb6,ki6⟩
       case measure => simp [intOf]; omega
   ·obtain ⟨⟨k,rL,tx,rW⟩,hq⟩:∃ q,L[s] = q := ⟨_,rfl⟩
    obtain ⟨g,pl,cl,pw,cw,e,⟨a0,a1,a2,a3⟩,SL,SW⟩ := HD.out.row HB2.out.bel hj1 hq
    subst e
    rw [hq] at hne
    have hsn:s < n := by rw [← HN.out]; exact hj1
    have hkne:(((k:Nat):Int) == ((s:Nat):Int)) = false := by
     have h9:k ≠ s := hne
     simp
     omega
    clear hq hj1 SL SW hne
    go_upto_region 10 with fail
    generalize (w2.alloc (.cells #[.int .i64 (most:Nat),.slice none 0 0] 29)) = w3 at *
    clear a0 a1 a2 a3 hkne
    clear q0 q1 q2 q3 q4 q5 q6 q7 q8
    go_wp2_with fail
    go_loopw [13] (fun i wq => ∃ (j:Nat) (u:Value),j ≤ s ∧ i = .int .i64 (j:Int) ∧ Hid (DL w wq w3.heap.size most (.slice (some ⟨g,0,none⟩) n c) u (L.take j) w.heap.size (w.heap.size + 1 + 1) w2.heap.size) ∧ Hid (Box wq w1.heap.size #[.int .i64 txn,.slice pz nz cz] 75) ∧ Hid (ImV w2 wq)) (fun i _ => s - (intOf i).toNat)
    case atStart => exact ⟨0,_,Nat.zero_le _,by go_num,HL3,HI3,HV3⟩
    case round =>
     obtain ⟨j,u,hj,rfl,HL,HI,HV2⟩ := hrel
     obtain ⟨s0,s1,o0,o1,o2,r0,r1,_,_⟩ := HL.out.cells
     have HA:Hid ((L.take j).length ≤ 65536) := by show _ ≤ _; rw [List.length_take,HN.out]; omega
     obtain ⟨pu,nu,cu,e9⟩:∃ pu nu cu,u = .slice pu nu cu := by
      obtain ⟨pu,cu,e9,_⟩ := HL.out.len
      exact ⟨pu,_,cu,e9⟩
     subst e9
     by_cases hj0:j = s
     ·have hj1 := hj0.symm
      clear hj0
      subst hj1
      have hjs:¬ ((s:Nat):Int) < ((s:Nat):Int) := by omega
      obtain ⟨i0,i1,_,_⟩ := box2 HI.out
      have HZ:Hid (SlR .i64 wr (.slice pz nz cz) (putL txn [] ⟨vn,false,vr⟩)) := SZ2.out.imv HV2.out
      have HNil:Hid (SlR .u64 wr (.slice none 0 0) []) := SlR.nil _ _
      have hb2 := HL.out.hB
      go_upto_region 15 with (first | (at_builtin; go_loud (refine wpList_doc wr rfl (.tmp 72) (.tmp 76) rfl w3.heap.size _ _ (by rfl) HL.out.d s ⟨[],txn,(putL txn [] ⟨vn,false,vr⟩)⟩ _ _ HNil.out HZ.out _ rfl (by simp) HA.out hb2 ?_); intro v6 w6 d6 g6 f6 i6; obtain ⟨k1,k2⟩ := HL.out.o6 f6; obtain ⟨p6,n6,c6,e6⟩:∃ p6 n6 c6,v6 = .slice p6 n6 c6 := (by obtain ⟨p6,c6,e6,_⟩ := d6.1.len; exact ⟨p6,_,c6,e6⟩); subst e6; clear g6))
      have HL7:Hid (DL w _ _ _ _ _ _ _ _ _) := HL.out.app d6 f6
      clear HL HI HV2 HZ HNil HA s0 s1 o0 o1 o2 r0 r1 i0 i1 k1 k2 d6 f6 i6 hb2 hjs
      generalize (w6.setCell ⟨w2.heap.size,1,none⟩ (.slice p6 n6 c6)) = w7 at *
      go_wp2_with fail
      go_loopw [14] (fun i wq => ∃ (m:Nat) (u:Value),s ≤ m ∧ m ≤ n ∧ i = .int .i64 (m:Int) ∧ Hid (DL w wq w3.heap.size most (.slice (some ⟨g,0,none⟩) n c) u (L.take s ++ [(s,newR txn ⟨vn,false,vr⟩)] ++ (L.take m).drop s) w.heap.size (w.heap.size + 1 + 1) w2.heap.size)) (fun i _ => n - (intOf i).toNat)
      case atStart => exact ⟨s,_,Nat.le_refl _,hs,by go_num,by rw [List.drop_of_length_le (by rw [List.length_take]; omega),List.append_nil]; exact HL7⟩
      case round =>
       obtain ⟨j,u,hsj,hj2,rfl,HL⟩ := hrel
       obtain ⟨s0,s1,o0,o1,o2,r0,r1,_,_⟩ := HL.out.cells
       obtain ⟨pu,nu,cu,e9⟩:∃ pu nu cu,u = .slice pu nu cu := by
        obtain ⟨pu,cu,e9,_⟩ := HL.out.len
        exact ⟨pu,_,cu,e9⟩
       subst e9
       by_cases hj0:j = n
       ·have HL2:Hid (DL w wr w3.heap.size most (.slice (some ⟨g,0,none⟩) n c) (.slice pu nu cu) (L.take s ++ [(s,newR txn ⟨vn,false,vr⟩)] ++ L.drop s) w.heap.size (w.heap.size + 1 + 1) w2.heap.size) := by
         have h1 := HL.out
         rw [hj0,← HN.out,List.take_length,HN.out] at h1
         exact h1
        have hjn:¬ ((j:Nat):Int) < ((n:Nat):Int) := by omega
        clear HL hj0
        go_wp2_with fail
        obtain ⟨f0,f1,fd,fb⟩ := HL2.out.fin (by have h8 := HS3.out; have h9 := HS2.out; omega)
        generalize (wr.setCell ⟨w.heap.size + 1 + 1,0,none⟩ (.int .i64 (most:Nat))).setCell ⟨w.heap.size + 1 + 1,1,none⟩ (.slice pu nu cu) = w9 at *
        (try simp only [Exit.inBlock,Exit.then])
        refine bodyPost_ret (v := .tuple #[.agg #[.int .i64 (most:Nat),.slice pu nu cu],.int .i64 (s:Nat),.int .i64 0]) (by simp [results,Tryz.results23,go_sem,f0,f1]) rfl ?_
        rw [show (L.take s ++ [(s,newR txn ⟨vn,false,vr⟩)] ++ L.drop s) = L.take s ++ (s,newR txn ⟨vn,false,vr⟩) :: L.drop s by simp] at fd
        exact ⟨⟨_,s,rfl,FreeAt.of (by rw [HN.out]; exact hs) HM.out HEnd.out,fd.base hB⟩,fb⟩
       ·have hj1:j < L.length := by rw [HN.out]; omega
        have hjn:j < n := by omega
        have HA:Hid ((L.take s ++ [(s,newR txn ⟨vn,false,vr⟩)] ++ (L.take j).drop s).length ≤ 65536) := by
         show _ ≤ _
         rw [List.length_append,List.length_append,List.length_drop,List.length_take,List.length_take,HN.out,Nat.min_eq_left hs,Nat.min_eq_left hj2]
         simp only [List.length_cons,List.length_nil]
         omega
        obtain ⟨⟨k,rL,tx,rW⟩,hq⟩:∃ q,L[j] = q := ⟨_,rfl⟩
        have HSt:Hid ((L.take s ++ [(s,newR txn ⟨vn,false,vr⟩)] ++ (L.take (j + 1)).drop s) = (L.take s ++ [(s,newR txn ⟨vn,false,vr⟩)] ++ (L.take j).drop s) ++ [(k,⟨rL,tx,rW⟩)]) := by
         show _ = _
         rw [List.take_add_one,List.getElem?_eq_getElem hj1,hq,List.drop_append_of_le_length (by rw [List.length_take]; omega)]
         simp
        obtain ⟨g2,pl,cl,pw,cw,e,⟨a0,a1,a2,a3⟩,SL,SW⟩ := HL.out.row HD.out hj1 hq
        have e2:g = g2 := by
         injection e with e
         injection e with e
        clear e
        subst e2
        clear hq hj1
        generalize rL.length = nl at *
        generalize rW.length = nw at *
        have bB:Below wr.heap.size wr (wr.alloc (.cells #[.int .i64 (k:Nat),.slice pl nl cl,.int .i64 tx,.slice pw nw cw] 77)).drew := ((Below.refl _ _).alloc (Nat.le_refl _) _).drew
        have HBd:Hid (Box (wr.alloc (.cells #[.int .i64 (k:Nat),.slice pl nl cl,.int .i64 tx,.slice pw nw cw] 77)).drew wr.heap.size #[.int .i64 (k:Nat),.slice pl nl cl,.int .i64 tx,.slice pw nw cw] 77) := Box.new wr _ _
        have HLd:Hid (DL w (wr.alloc (.cells #[.int .i64 (k:Nat),.slice pl nl cl,.int .i64 tx,.slice pw nw cw] 77)).drew _ _ _ _ _ _ _ _) := HL.out.on bB
        have SLd:Hid (SlR .u64 (wr.alloc (.cells #[.int .i64 (k:Nat),.slice pl nl cl,.int .i64 tx,.slice pw nw cw] 77)).drew _ _) := SL.imm (Imm.of_below bB)
        have SWd:Hid (SlR .i64 (wr.alloc (.cells #[.int .i64 (k:Nat),.slice pl nl cl,.int .i64 tx,.slice pw nw cw] 77)).drew _ _) := SW.imm (Imm.of_below bB)
        have hbd := HLd.out.hB
        have HFin:Hid (∀ v6 w6,DocN w6 w3.heap.size v6 ((L.take s ++ [(s,newR txn ⟨vn,false,vr⟩)] ++ (L.take j).drop s) ++ [(k,⟨rL,tx,rW⟩)]) → Frm (wr.alloc (.cells #[.int .i64 (k:Nat),.slice pl nl cl,.int .i64 tx,.slice pw nw cw] 77)).drew w6 (fun g => (Value.slice pu nu cu).ownBlock = some g) → (∃ p6 n6 c6,v6 = .slice p6 n6 c6) ∧ w6.cell? ⟨w2.heap.size,1,none⟩ = some (.slice pu nu cu) ∧ w6.frozen? ⟨w2.heap.size,1,none⟩ = false ∧ DL w (w6.setCell ⟨w2.heap.size,1,none⟩ v6) w3.heap.size most (.slice (some ⟨g,0,none⟩) n c) v6 ((L.take s ++ [(s,newR txn ⟨vn,false,vr⟩)] ++ (L.take j).drop s) ++ [(k,⟨rL,tx,rW⟩)]) w.heap.size (w.heap.size + 1 + 1) w2.heap.size) := fun v6 w6 d6 f6 => by
         obtain ⟨z1,z2,z3,z4⟩ := HLd.out.fins v6 w6 d6 f6
         exact ⟨z1,z2,z3,z4⟩
        obtain ⟨_,_,_,m1,_⟩ := (HL.out.on ((Below.refl _ _).alloc (Nat.le_refl _) (.cells #[.int .i64 (k:Nat),.slice pl nl cl,.int .i64 tx,.slice pw nw cw] 77))).cells
        clear bB SL SW
        go_upto_region 18 with fail
        refine wp_region_any (by kernel_rfl) ?_
        change wpAny _ _ _ _ _ _ _ (World.drew _)
        refine tk (v := ?_) 0 rfl ?_ ?_
        rotate_left
        focus
         intro w9
         go_simp
         try with_reducible rfl
        try simp only [aP]
        refine tk (v := ?_) 2 rfl ?_ ?_
        rotate_left
        focus
         intro w9
         go_simp
         try with_reducible rfl
        try simp only [aP]
        refine tk (v := ?_) 4 rfl ?_ ?_
        rotate_left
        focus
         intro w9
         go_simp
         try with_reducible rfl
        try simp only [aP]
        apply laterI4 (α0 := World) (α1 := Option Addr) (α2 := Nat) (α3 := Nat)
        intro hs1_3_6_7_8
        apply later0
        intro hs1_3_6_7
        apply later0
        intro hs3_6_7
        apply later0
        intro hs1_3_6
        apply later0
        intro hs3_6
        apply later0
        intro hs1_3
        apply later0
        intro hs3
        apply later0
        intro hs1
        ·refine wpAny_ready (rs := [1,3]) (by kernel_rfl) (by simp) ?_
         refine anyN_cons 1 rfl (by rfl) (fun K hK => ?_) (anyN_cons 3 rfl (by rfl) (fun K hK => ?_) AllReady.nil)
         ·go_simp
          refine hK.out _ _ ?_
          clear hK K
          try simp only [aP]
          exact hs1
         ·go_simp
          refine hK.out _ _ ?_
          clear hK K
          try simp only [aP]
          refine tk (v := ?_) 5 rfl ?_ ?_
          rotate_left
          focus
           intro w9
           go_simp
           try with_reducible rfl
          try simp only [aP]
          exact hs3
        ·refine wpAny_ready (rs := [3]) (by kernel_rfl) (by simp) ?_
         refine anyN_cons 3 rfl (by rfl) (fun K hK => ?_) AllReady.nil
         go_simp
         refine hK.out _ _ ?_
         clear hK K
         try simp only [aP]
         refine tk (v := ?_) 5 rfl ?_ ?_
         rotate_left
         focus
          intro w9
          go_simp
          try with_reducible rfl
         try simp only [aP]
         exact hs1_3
        ·refine wpAny_ready (rs := [1,6]) (by kernel_rfl) (by simp) ?_
         refine anyN_cons 1 rfl (by rfl) (fun K hK => ?_) (anyN_cons 6 rfl (by rfl) (fun K hK => ?_) AllReady.nil)
         ·go_simp
          refine hK.out _ _ ?_
          clear hK K
          try simp only [aP]
          exact hs1_3
         ·go_simp
          refine hK.out _ _ ?_
          clear hK K
          try simp only [aP]
          exact hs3_6
        ·refine wpAny_ready (rs := [6]) (by kernel_rfl) (by simp) ?_
         refine anyN_cons 6 rfl (by rfl) (fun K hK => ?_) AllReady.nil
         go_simp
         refine hK.out _ _ ?_
         clear hK K
         try simp only [aP]
         exact hs1_3_6
        ·refine wpAny_ready (rs := [1,7]) (by kernel_rfl) (by simp) ?_
         refine anyN_cons 1 rfl (by rfl) (fun K hK => ?_) (anyN_cons 7 rfl (by rfl) (fun K hK => ?_) AllReady.nil)
         ·go_simp
          refine hK.out _ _ ?_
          clear hK K
          try simp only [aP]
          exact hs1_3_6
         ·go_simp
          refine hK.out _ _ ?_
          clear hK K
          try simp only [aP]
          exact hs3_6_7
        ·refine wpAny_ready (rs := [7]) (by kernel_rfl) (by simp) ?_
         refine anyN_cons 7 rfl (by rfl) (fun K hK => ?_) AllReady.nil
         go_simp
         refine hK.out _ _ ?_
         clear hK K
         try simp only [aP]
         exact hs1_3_6_7
        ·refine wpAny_ready (rs := [1]) (by kernel_rfl) (by simp) ?_
         refine anyN_cons 1 rfl (by rfl) (fun K hK => ?_) AllReady.nil
         go_simp
         refine hK.out _ _ ?_
         clear hK K
         try simp only [aP]
         exact hs1_3_6_7
        ·refine wpAny_ready (rs := [8]) (by kernel_rfl) (by simp) ?_
         refine anyN_cons 8 rfl (by rfl) (fun K hK => ?_) AllReady.nil
         refine wp_doc (wr.alloc (.cells #[.int .i64 (k:Nat),.slice pl nl cl,.int .i64 tx,.slice pw nw cw] 77)).drew (.tmp 88) (.tmp 94) rfl w3.heap.size _ _ (by simp only [Act.eval]; rfl) HLd.out.d k ⟨rL,tx,rW⟩ _ _ SLd.out SWd.out wr.heap.size (by simp only [Act.eval]; rfl) HBd.out HA.out hbd ?_
         intro v6 w6 d6 f6
         obtain ⟨⟨p6,n6,c6,e6⟩,k1,k2,hl6⟩ := HFin.out v6 w6 d6 f6
         subst e6
         clear d6 f6
         have HQ:Hid (_ ∧ _ ∧ _) := ⟨k1,k2,hl6⟩
         clear k1 k2 hl6
         refine hK.out _ _ ?_
         clear hK K
         try simp only [aP]
         refine tk (v := ?_) 9 rfl ?_ ?_
         rotate_left
         focus
          intro w9
          go_simp
          try with_reducible rfl
         try simp only [aP]
         exact hs1_3_6_7_8 w6 p6 n6 c6 HQ
        ·intro w6 p6 n6 c6 HQ
         obtain ⟨k1,k2,hl6⟩ := HQ.out
         refine wpAny_ready (rs := [10]) (by kernel_rfl) (by simp) ?_
         refine anyN_cons 10 rfl (by rfl) (fun K hK => ?_) AllReady.nil
         go_simp
         refine hK.out _ _ ?_
         clear hK K
         try simp only [aP]
         refine wpAny_done (by kernel_rfl) ?_ _
         go_wp2_with fail
         go_roundw
         case rel => exact ⟨j + 1,_,by omega,by omega,by go_num,by rw [HSt.out]; exact hl6⟩
         case measure => simp [intOf]; omega
     ·have hj1:j < L.length := by rw [HN.out]; omega
      have hjn:j < n := by omega
      obtain ⟨⟨k,rL,tx,rW⟩,hq⟩:∃ q,L[j] = q := ⟨_,rfl⟩
      have HSt:Hid ((L.take (j + 1)) = (L.take j) ++ [(k,⟨rL,tx,rW⟩)]) := by
       show _ = _
       rw [List.take_add_one,List.getElem?_eq_getElem hj1,hq]
       rfl
      obtain ⟨g2,pl,cl,pw,cw,e,⟨a0,a1,a2,a3⟩,SL,SW⟩ := HL.out.row HD.out hj1 hq
      have e2:g = g2 := by
       injection e with e
       injection e with e
      clear e
      subst e2
      clear hq hj1
      generalize rL.length = nl at *
      generalize rW.length = nw at *
      have bB:Below wr.heap.size wr (wr.alloc (.cells #[.int .i64 (k:Nat),.slice pl nl cl,.int .i64 tx,.slice pw nw cw] 77)).drew := ((Below.refl _ _).alloc (Nat.le_refl _) _).drew
      have HBd:Hid (Box (wr.alloc (.cells #[.int .i64 (k:Nat),.slice pl nl cl,.int .i64 tx,.slice pw nw cw] 77)).drew wr.heap.size #[.int .i64 (k:Nat),.slice pl nl cl,.int .i64 tx,.slice pw nw cw] 77) := Box.new wr _ _
      have HLd:Hid (DL w (wr.alloc (.cells #[.int .i64 (k:Nat),.slice pl nl cl,.int .i64 tx,.slice pw nw cw] 77)).drew _ _ _ _ _ _ _ _) := HL.out.on bB
      have SLd:Hid (SlR .u64 (wr.alloc (.cells #[.int .i64 (k:Nat),.slice pl nl cl,.int .i64 tx,.slice pw nw cw] 77)).drew _ _) := SL.imm (Imm.of_below bB)
      have SWd:Hid (SlR .i64 (wr.alloc (.cells #[.int .i64 (k:Nat),.slice pl nl cl,.int .i64 tx,.slice pw nw cw] 77)).drew _ _) := SW.imm (Imm.of_below bB)
      have hbd := HLd.out.hB
      have HFin:Hid (∀ v6 w6,DocN w6 w3.heap.size v6 ((L.take j) ++ [(k,⟨rL,tx,rW⟩)]) → Frm (wr.alloc (.cells #[.int .i64 (k:Nat),.slice pl nl cl,.int .i64 tx,.slice pw nw cw] 77)).drew w6 (fun g => (Value.slice pu nu cu).ownBlock = some g) → (∃ p6 n6 c6,v6 = .slice p6 n6 c6) ∧ w6.cell? ⟨w2.heap.size,1,none⟩ = some (.slice pu nu cu) ∧ w6.frozen? ⟨w2.heap.size,1,none⟩ = false ∧ DL w (w6.setCell ⟨w2.heap.size,1,none⟩ v6) w3.heap.size most (.slice (some ⟨g,0,none⟩) n c) v6 ((L.take j) ++ [(k,⟨rL,tx,rW⟩)]) w.heap.size (w.heap.size + 1 + 1) w2.heap.size ∧ Box (w6.setCell ⟨w2.heap.size,1,none⟩ v6) w1.heap.size #[.int .i64 txn,.slice pz nz cz] 75 ∧ ImV w2 (w6.setCell ⟨w2.heap.size,1,none⟩ v6)) := fun v6 w6 d6 f6 => by
       obtain ⟨z1,z2,z3,z4⟩ := HLd.out.fins v6 w6 d6 f6
       exact ⟨z1,z2,z3,z4,HLd.out.box f6 (HI.out.on bB) (by have h8 := HS2.out.1; have h9 := HS3.out; omega) (by have h8 := HS2.out.1; omega),(HV2.out.trans (ImV.of_below bB)).trans (HLd.out.imv f6)⟩
      obtain ⟨_,_,_,m1,_⟩ := (HL.out.on ((Below.refl _ _).alloc (Nat.le_refl _) (.cells #[.int .i64 (k:Nat),.slice pl nl cl,.int .i64 tx,.slice pw nw cw] 77))).cells
      clear bB SL SW
      have hjs:((j:Nat):Int) < ((s:Nat):Int) := by omega
      go_upto_region 13 with fail
      refine wp_region_any (by kernel_rfl) ?_
      change wpAny _ _ _ _ _ _ _ (World.drew _)
      refine tk (v := ?_) 0 rfl ?_ ?_
      rotate_left
      focus
       intro w9
       go_simp
       try with_reducible rfl
      try simp only [aP]
      refine tk (v := ?_) 2 rfl ?_ ?_
      rotate_left
      focus
       intro w9
       go_simp
       try with_reducible rfl
      try simp only [aP]
      refine tk (v := ?_) 4 rfl ?_ ?_
      rotate_left
      focus
       intro w9
       go_simp
       try with_reducible rfl
      try simp only [aP]
      apply laterI4 (α0 := World) (α1 := Option Addr) (α2 := Nat) (α3 := Nat)
      intro hs1_3_6_7_8
      apply later0
      intro hs1_3_6_7
      apply later0
      intro hs3_6_7
      apply later0
      intro hs1_3_6
      apply later0
      intro hs3_6
      apply later0
      intro hs1_3
      apply later0
      intro hs3
      apply later0
      intro hs1
      ·refine wpAny_ready (rs := [1,3]) (by kernel_rfl) (by simp) ?_
       refine anyN_cons 1 rfl (by rfl) (fun K hK => ?_) (anyN_cons 3 rfl (by rfl) (fun K hK => ?_) AllReady.nil)
       ·go_simp
        refine hK.out _ _ ?_
        clear hK K
        try simp only [aP]
        exact hs1
       ·go_simp
        refine hK.out _ _ ?_
        clear hK K
        try simp only [aP]
        refine tk (v := ?_) 5 rfl ?_ ?_
        rotate_left
        focus
         intro w9
         go_simp
         try with_reducible rfl
        try simp only [aP]
        exact hs3
      ·refine wpAny_ready (rs := [3]) (by kernel_rfl) (by simp) ?_
       refine anyN_cons 3 rfl (by rfl) (fun K hK => ?_) AllReady.nil
       go_simp
       refine hK.out _ _ ?_
       clear hK K
       try simp only [aP]
       refine tk (v := ?_) 5 rfl ?_ ?_
       rotate_left
       focus
        intro w9
        go_simp
        try with_reducible rfl
       try simp only [aP]
       exact hs1_3
      ·refine wpAny_ready (rs := [1,6]) (by kernel_rfl) (by simp) ?_
       refine anyN_cons 1 rfl (by rfl) (fun K hK => ?_) (anyN_cons 6 rfl (by rfl) (fun K hK => ?_) AllReady.nil)
       ·go_simp
        refine hK.out _ _ ?_
        clear hK K
        try simp only [aP]
        exact hs1_3
       ·go_simp
        refine hK.out _ _ ?_
        clear hK K
        try simp only [aP]
        exact hs3_6
      ·refine wpAny_ready (rs := [6]) (by kernel_rfl) (by simp) ?_
       refine anyN_cons 6 rfl (by rfl) (fun K hK => ?_) AllReady.nil
       go_simp
       refine hK.out _ _ ?_
       clear hK K
       try simp only [aP]
       exact hs1_3_6
      ·refine wpAny_ready (rs := [1,7]) (by kernel_rfl) (by simp) ?_
       refine anyN_cons 1 rfl (by rfl) (fun K hK => ?_) (anyN_cons 7 rfl (by rfl) (fun K hK => ?_) AllReady.nil)
       ·go_simp
        refine hK.out _ _ ?_
        clear hK K
        try simp only [aP]
        exact hs1_3_6
       ·go_simp
        refine hK.out _ _ ?_
        clear hK K
        try simp only [aP]
        exact hs3_6_7
      ·refine wpAny_ready (rs := [7]) (by kernel_rfl) (by simp) ?_
       refine anyN_cons 7 rfl (by rfl) (fun K hK => ?_) AllReady.nil
       go_simp
       refine hK.out _ _ ?_
       clear hK K
       try simp only [aP]
       exact hs1_3_6_7
      ·refine wpAny_ready (rs := [1]) (by kernel_rfl) (by simp) ?_
       refine anyN_cons 1 rfl (by rfl) (fun K hK => ?_) AllReady.nil
       go_simp
       refine hK.out _ _ ?_
       clear hK K
       try simp only [aP]
       exact hs1_3_6_7
      ·refine wpAny_ready (rs := [8]) (by kernel_rfl) (by simp) ?_
       refine anyN_cons 8 rfl (by rfl) (fun K hK => ?_) AllReady.nil
       refine wp_doc (wr.alloc (.cells #[.int .i64 (k:Nat),.slice pl nl cl,.int .i64 tx,.slice pw nw cw] 77)).drew (.tmp 62) (.tmp 68) rfl w3.heap.size _ _ (by simp only [Act.eval]; rfl) HLd.out.d k ⟨rL,tx,rW⟩ _ _ SLd.out SWd.out wr.heap.size (by simp only [Act.eval]; rfl) HBd.out HA.out hbd ?_
       intro v6 w6 d6 f6
       obtain ⟨⟨p6,n6,c6,e6⟩,k1,k2,hl6,kb6,ki6⟩ := HFin.out v6 w6 d6 f6
       subst e6
       clear d6 f6
       have HQ:Hid (_ ∧ _ ∧ _ ∧ _ ∧ _) := ⟨k1,k2,hl6,kb6,ki6⟩
       clear k1 k2 hl6 kb6 ki6
       refine hK.out _ _ ?_
       clear hK K
       try simp only [aP]
       refine tk (v := ?_) 9 rfl ?_ ?_
       rotate_left
       focus
        intro w9
        go_simp
        try with_reducible rfl
       try simp only [aP]
       exact hs1_3_6_7_8 w6 p6 n6 c6 HQ
      ·intro w6 p6 n6 c6 HQ
       obtain ⟨k1,k2,hl6,kb6,ki6⟩ := HQ.out
       refine wpAny_ready (rs := [10]) (by kernel_rfl) (by simp) ?_
       refine anyN_cons 10 rfl (by rfl) (fun K hK => ?_) AllReady.nil
       go_simp
       refine hK.out _ _ ?_
       clear hK K
       try simp only [aP]
       refine wpAny_done (by kernel_rfl) ?_ _
       go_wp2_with fail
       go_roundw
       case rel => exact ⟨j + 1,_,by omega,by go_num,by rw [HSt.out]; exact hl6,kb6,ki6⟩
       case measure => simp [intOf]; omega

end Go.Proofs.YtcibcfghkidncaaGreatDoor

namespace Go.Proofs.YtcibcfghkidncaaGreatDoor

def freeS (M:List Rs):Nat := M.findIdx (fun r => !thr r)
theorem free_no (M:List Rs):thrAt M (freeS M) = false := by
 unfold thrAt freeS
 by_cases h:M.findIdx (fun r => !thr r) < M.length
 ·rw [List.getElem?_eq_getElem h]
  have := List.findIdx_getElem (w := h)
  simpa using this
 ·rw [List.getElem?_eq_none (by omega)]
theorem free_lt {M:List Rs} {j:Nat} (h:j < freeS M):thrAt M j = true := by
 unfold freeS at h
 have hl:j < M.length := Nat.lt_of_lt_of_le h List.findIdx_le_length
 unfold thrAt
 rw [List.getElem?_eq_getElem hl]
 have := List.not_of_lt_findIdx h
 simpa using this
theorem free_eq {M:List Rs} {s:Nat} (h1:thrAt M s = false) (h2:∀ j,j < s → thrAt M j = true):s = freeS M := by
 rcases Nat.lt_trichotomy s (freeS M) with h | h | h
 ·rw [free_lt h] at h1; cases h1
 ·exact h
 ·have := h2 _ h; rw [free_no] at this; cases this
theorem thrAt_mem {M:List Rs} {x:Nat}:thrAt M x = true ↔ x ∈ slM M := by
 rw [mem_slM]
 unfold thrAt
 cases hx:M[x]? with
 | none => simp
 | some r => simp
theorem docL_idx {M:List Rs} {i:Nat} (hi:i < (docL M).length):∃ h:i < (slM M).length,(docL M)[i].1 = (slM M)[i] := by
 have hl:i < (slM M).length := by unfold docL at hi; simpa using hi
 refine ⟨hl,?_⟩
 exact congrArg Prod.fst (List.getElem_map (l := slM M) (fun x => (x,M.getD x nilR)) (i := i) (h := hi))
theorem slM_docLen (M:List Rs):(docL M).length = (slM M).length := by unfold docL; rw [List.length_map]
theorem rise_at {L:List Nat} (h:L.Pairwise (· < ·)) {i j:Nat} (hj:j < L.length) (hij:i < j):L[i]'(by omega) < L[j] := List.pairwise_iff_getElem.1 h i j (by omega) hj hij
theorem FreeAt.free {M:List Rs} {s:Nat} (h:FreeAt (docL M) s):s = freeS M ∧ (∀ m (hm:m < (slM M).length),m < s → (slM M)[m] = m) ∧ s ≤ (slM M).length := by
 obtain ⟨h1,h2,h3⟩ := h
 have e:∀ m (hm:m < (slM M).length),m < s → (slM M)[m] = m := fun m hm hms => by
  have hd:m < (docL M).length := by rw [slM_docLen]; exact hm
  obtain ⟨_,e⟩ := docL_idx hd
  rw [← e]
  exact h2 m _ hms (List.getElem?_eq_getElem hd)
 rw [slM_docLen] at h1
 have hr := slM_rise M
 refine ⟨free_eq ?_ (fun j hj => ?_),e,h1⟩
 ·cases hc:thrAt M s with
  | false => rfl
  | true =>
   obtain ⟨i,hi,hs⟩ := List.getElem_of_mem (thrAt_mem.1 hc)
   exfalso
   rcases Nat.lt_trichotomy i s with hlt | heq | hgt
   ·have := e i hi hlt
    omega
   ·subst heq
    have hd:i < (docL M).length := by rw [slM_docLen]; exact hi
    obtain ⟨_,e9⟩ := docL_idx hd
    exact h3 _ (List.getElem?_eq_getElem hd) (e9.trans hs)
   ·have hs0:s < (slM M).length := by omega
    have h5 := rise_at hr hi hgt
    have h6:s ≤ (slM M)[s] := by
     rcases Nat.eq_zero_or_pos s with h0 | h0
     ·omega
     ·have h7 := rise_at hr hs0 (show s - 1 < s by omega)
      have h8 := e (s - 1) (by omega) (by omega)
      omega
    omega
 ·have hl:j < (slM M).length := by omega
  exact thrAt_mem.2 (by have := e j hl hj; rw [← this]; exact List.getElem_mem hl)
theorem addM_getD {M:List Rs} {s:Nat} (hs:s ≤ M.length) (r:Rs) (x:Nat):(addM M s r).getD x nilR = if x = s then r else M.getD x nilR := by
 rw [List.getD_eq_getElem?_getD,addM_at hs r x]
 by_cases e:x = s
 ·rw [if_pos e,if_pos e]; rfl
 ·rw [if_neg e,if_neg e,List.getD_eq_getElem?_getD]
theorem docL_add {M:List Rs} {s:Nat} {r:Rs} (h:FreeAt (docL M) s) (hr:thr r = true):docL (addM M s r) = (docL M).take s ++ (s,r) :: (docL M).drop s := by
 obtain ⟨hf,he,hl⟩ := h.free
 have hsM:s ≤ M.length := by
  have := slM_len M
  omega
 have hno:s ∉ slM M := fun hm => by
  have := thrAt_mem.2 hm
  rw [hf,free_no] at this
  cases this
 have hmem:∀ x,x ∈ slM (addM M s r) ↔ x = s ∨ x ∈ slM M := fun x => by
  rw [mem_slM,mem_slM,addM_at hsM r x]
  by_cases e:x = s
  ·rw [if_pos e]
   simp [e,hr]
  ·rw [if_neg e]
   simp [e]
 have hsl:slM (addM M s r) = (slM M).take s ++ s :: (slM M).drop s := by
  have hrise := slM_rise M
  refine rise_ext (slM_rise _) ?_ (fun x => ?_)
  ·rw [List.pairwise_append]
   refine ⟨hrise.sublist (List.take_sublist _ _),?_,?_⟩
   ·rw [List.pairwise_cons]
    refine ⟨fun y hy => ?_,hrise.sublist (List.drop_sublist _ _)⟩
    obtain ⟨i,hi,rfl⟩ := List.getElem_of_mem hy
    rw [List.getElem_drop]
    rw [List.length_drop] at hi
    have hne:(slM M)[s + i] ≠ s := fun e => hno (by rw [← e]; exact List.getElem_mem _)
    have hge:s ≤ (slM M)[s + i] := by
     rcases Nat.eq_zero_or_pos s with h0 | h0
     ·omega
     ·have h7 := rise_at hrise (show s + i < (slM M).length by omega) (show s - 1 < s + i by omega)
      have h8 := he (s - 1) (by omega) (by omega)
      omega
    omega
   ·intro a ha b hb
    obtain ⟨i,hi,rfl⟩ := List.getElem_of_mem ha
    rw [List.length_take] at hi
    rw [List.getElem_take,he i (by omega) (by omega)]
    rcases List.mem_cons.1 hb with rfl | hb
    ·omega
    ·obtain ⟨k,hk,rfl⟩ := List.getElem_of_mem hb
     rw [List.length_drop] at hk
     rw [List.getElem_drop]
     have h7 := rise_at hrise (show s + k < (slM M).length by omega) (show i < s + k by omega)
     rw [he i (by omega) (by omega)] at h7
     exact h7
  ·rw [hmem x,List.mem_append,List.mem_cons]
   constructor
   ·rintro (e | e)
    ·exact .inr (.inl e)
    ·rw [← List.take_append_drop s (slM M)] at e
     rcases List.mem_append.1 e with e | e
     ·exact .inl e
     ·exact .inr (.inr e)
   ·rintro (e | e | e)
    ·exact .inr (List.mem_of_mem_take e)
    ·exact .inl e
    ·exact .inr (List.mem_of_mem_drop e)
 have hmap:∀ l:List Nat,(∀ x ∈ l,x ≠ s) → l.map (fun x => (x,(addM M s r).getD x nilR)) = l.map (fun x => (x,M.getD x nilR)) := fun l hx => by
  apply List.map_congr_left
  intro x hm
  rw [addM_getD hsM,if_neg (hx x hm)]
 unfold docL
 rw [hsl,List.map_append,List.map_cons,addM_getD hsM,if_pos rfl,hmap _ (fun x hx e => hno (by rw [← e]; exact List.mem_of_mem_take hx)),hmap _ (fun x hx e => hno (by rw [← e]; exact List.mem_of_mem_drop hx)),List.map_take,List.map_drop]
theorem docL_full {M:List Rs} {most:Nat} (hM:M.length ≤ most) (h:most ≤ (docL M).length):freeS M = most ∧ ∀ j,j < most → thrAt M j = true := by
 rw [slM_docLen] at h
 have h1 := slM_len M
 have hml:M.length = most := by omega
 have hsub:(slM M) = List.range M.length := by
  have hs:(slM M).Sublist (List.range M.length) := List.filter_sublist
  exact hs.eq_of_length (by rw [List.length_range]; omega)
 have hall:∀ j,j < most → thrAt M j = true := fun j hj => thrAt_mem.2 (by rw [hsub,List.mem_range]; omega)
 refine ⟨(free_eq ?_ hall).symm,hall⟩
 unfold thrAt
 rw [List.getElem?_eq_none (by omega)]
theorem docL_room {M:List Rs} {most:Nat} (_hM:M.length ≤ most) (h:(docL M).length < most):freeS M < most := by
 rcases Nat.lt_or_ge (freeS M) most with h1 | h1
 ·exact h1
 ·exfalso
  have hall:∀ j,j < most → j ∈ slM M := fun j hj => thrAt_mem.1 (free_lt (by omega))
  have hsub:(List.range most).Sublist (slM M) ∨ True := .inr trivial
  have hlen:most ≤ (slM M).length := by
   have hnd:(List.range most).Nodup := List.nodup_range
   have := List.Nodup.length_le_of_subset hnd (fun x hx => hall x (List.mem_range.1 hx))
   simpa using this
  rw [slM_docLen] at h
  omega

end Go.Proofs.YtcibcfghkidncaaGreatDoor
