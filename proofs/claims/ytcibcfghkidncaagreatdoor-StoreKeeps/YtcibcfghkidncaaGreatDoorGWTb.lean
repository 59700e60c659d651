/- Two stores and a document's beside one another. Add, whatever comes; boxes of acts. -/
import Derived.Test.YtcibcfghkidncaaGreatDoorGFSto11
namespace Go.Proofs.YtcibcfghkidncaaGreatDoor
open Go.RowKit Go.Lib
set_option maxRecDepth 100000

section
variable {w w':World} {B sb most:Nat} {M:List Rs} {K J J':Nat} {F G:Nat → Prop}
theorem Sto.keep (h:Sto w B sb most M K J F) (hf:Frm w w' G) (hi:Imm w w') (hn:∀ k,F k → ¬ G k):Sto w' B sb most M K J F := by
 obtain ⟨pb,dl,dm,pv,tv,C,T,sv,wo,hX,hd0,hI,hW,hF⟩ := h
 exact ⟨pb,dl,dm,pv,tv,C,T,sv,wo,hX.keep hf hi (fun k hk => hn k ((hF k).2 hk)),hd0,hI,hW,hF⟩
theorem Sto.self (h:Sto w B sb most M K J F):F sb := by
 obtain ⟨pb,dl,dm,pv,tv,C,T,sv,wo,hX,hd0,hI,hW,hF⟩ := h
 exact (hF sb).2 (.inl rfl)
theorem Sto.jset (h:Sto w B sb most M K J F) (hk:∀ r ∈ M,OkR J' r):Sto w B sb most M K J' F := by
 obtain ⟨pb,dl,dm,pv,tv,C,T,sv,wo,hX,hd0,hI,hW,hF⟩ := h
 exact ⟨pb,dl,dm,pv,tv,C,T,sv,wo,hX,hd0,⟨hk,hI.len,hI.mst,hI.bit,hI.tl,hI.tw⟩,hW,hF⟩
end
structure TB (w wq:World) (b1 b2 bm:Nat) (M1:List Rs) (K1 J1:Nat) (M2:List Rs) (K2 J2:Nat) (D:List (Nat × Rs)) (v:Value):Prop where
 st:∃ F1 F2:Nat → Prop,Sto wq b1 b1 64 M1 K1 J1 F1 ∧ Sto wq b2 b2 64 M2 K2 J2 F2 ∧ (∀ k,F1 k → ¬ F2 k) ∧ ¬ F1 bm ∧ ¬ F2 bm
 doc:DocS wq b2 v D
 m:Box wq bm #[.int .i64 64,v] 29
 tab:Tab wq
 bel:Below w.heap.size w wq
 lo:w.heap.size < b1 ∧ b1 ≤ b2 ∧ w.heap.size ≤ bm
 glo : 1 < w.heap.size
section
variable {w wq w':World} {b1 b2 bm:Nat} {M1 M1':List Rs} {K1 J1 K1' J1':Nat} {M2 M2':List Rs} {K2 J2 K2' J2':Nat} {D:List (Nat × Rs)} {v:Value}
theorem TB.on (h:TB w wq b1 b2 bm M1 K1 J1 M2 K2 J2 D v) (hb:Below wq.heap.size wq w'):TB w w' b1 b2 bm M1 K1 J1 M2 K2 J2 D v := by
 obtain ⟨F1,F2,h1,h2,h3⟩ := h.st
 exact ⟨⟨F1,F2,h1.on hb,h2.on hb,h3⟩,h.doc.on hb,h.m.on hb,h.tab.keep hb (Nat.lt_of_lt_of_le h.glo h.bel.size),h.bel.trans (hb.mono h.bel.size),h.lo,h.glo⟩
theorem TB.jset1 (h:TB w wq b1 b2 bm M1 K1 J1 M2 K2 J2 D v) (hk:∀ r ∈ M1,OkR J1' r):TB w wq b1 b2 bm M1 K1 J1' M2 K2 J2 D v := by
 obtain ⟨F1,F2,h1,h2,h3⟩ := h.st
 exact ⟨⟨F1,F2,h1.jset hk,h2,h3⟩,h.doc,h.m,h.tab,h.bel,h.lo,h.glo⟩
theorem TB.mono1 (h:TB w wq b1 b2 bm M1 K1 J1 M2 K2 J2 D v) (hk:K1 ≤ K1') (hj:J1 ≤ J1'):TB w wq b1 b2 bm M1 K1' J1' M2 K2 J2 D v := by
 obtain ⟨F1,F2,h1,h2,h3⟩ := h.st
 exact ⟨⟨F1,F2,h1.mono hk hj,h2,h3⟩,h.doc,h.m,h.tab,h.bel,h.lo,h.glo⟩
theorem TB.ok1 (h:TB w wq b1 b2 bm M1 K1 J1 M2 K2 J2 D v):(∀ r ∈ M1,OkR J1 r) ∧ M1.length ≤ 64 := by
 obtain ⟨F1,F2,h1,h2,h3⟩ := h.st
 exact ⟨h1.ok.1,h1.ok.2.1⟩
theorem TB.s1 {fn:FuncId} {args:Array Value} {Q:Ending → Prop} (h:TB w wq b1 b2 bm M1 K1 J1 M2 K2 J2 D v) (hc:∀ F,Sto wq b1 b1 64 M1 K1 J1 F → Calls Tryz.prog fn args wq fun e w' => Q e ∧ (∃ F',Sto w' b1 b1 64 M1' K1' J1' F' ∧ ∀ k,F' k → F k ∨ wq.heap.size ≤ k) ∧ Frm wq w' F) :
  Calls Tryz.prog fn args wq fun e w' => Q e ∧ TB w w' b1 b2 bm M1' K1' J1' M2 K2 J2 D v := by
 obtain ⟨F1,F2,h1,h2,h3,h4,h5⟩ := h.st
 refine (hc F1 h1).mono ?_
 rintro e w' ⟨hq,⟨F',hs,hF⟩,hf⟩
 have hi := h1.imm hf
 have hB:b1 ≤ wq.heap.size := Nat.le_of_lt (h1.mut h1.self).2.2
 have hbl := h1.bel hB hf
 refine ⟨hq,⟨F',F2,hs,h2.keep hf hi (fun k hk hk1 => h3 k hk1 hk),fun k hk hk2 => ?_,fun hk => ?_,h5⟩,h.doc.imm hi,h.m.frm hf h4,h.tab.keep hbl (Nat.lt_trans h.glo h.lo.1),h.bel.trans (hbl.mono (Nat.le_of_lt h.lo.1)),h.lo,h.glo⟩
 ·rcases hF k hk with h9 | h9
  ·exact h3 k h9 hk2
  ·have := (h2.mut hk2).2.2
   omega
 ·rcases hF bm hk with h9 | h9
  ·exact h4 h9
  ·have := h.m.lt
   omega
theorem TB.s2 {fn:FuncId} {args:Array Value} {Q:Ending → Prop} (h:TB w wq b1 b2 bm M1 K1 J1 M2 K2 J2 D v) (hc:∀ F,Sto wq b2 b2 64 M2 K2 J2 F → Calls Tryz.prog fn args wq fun e w' => Q e ∧ (∃ F',Sto w' b2 b2 64 M2' K2' J2' F' ∧ ∀ k,F' k → F k ∨ wq.heap.size ≤ k) ∧ Frm wq w' F) :
  Calls Tryz.prog fn args wq fun e w' => Q e ∧ TB w w' b1 b2 bm M1 K1 J1 M2' K2' J2' D v := by
 obtain ⟨F1,F2,h1,h2,h3,h4,h5⟩ := h.st
 refine (hc F2 h2).mono ?_
 rintro e w' ⟨hq,⟨F',hs,hF⟩,hf⟩
 have hi := h2.imm hf
 have hB:b2 ≤ wq.heap.size := Nat.le_of_lt (h2.mut h2.self).2.2
 have hbl := h2.bel hB hf
 have hlo := h.lo
 refine ⟨hq,⟨F1,F',h1.keep hf hi h3,hs,fun k hk1 hk => ?_,h4,fun hk => ?_⟩,h.doc.imm hi,h.m.frm hf h5,h.tab.keep hbl (by have := h.glo; omega),h.bel.trans (hbl.mono (by omega)),h.lo,h.glo⟩
 ·rcases hF k hk with h9 | h9
  ·exact h3 k hk1 h9
  ·have := (h1.mut hk1).2.2
   omega
 ·rcases hF bm hk with h9 | h9
  ·exact h5 h9
  ·have := h.m.lt
   omega
theorem TB.is1 (h:TB w wq b1 b2 bm M1 K1 J1 M2 K2 J2 (docL M1) v) (hJ:J1 ≤ 3518437208882) :
  Calls Tryz.prog 11 #[ptr1 b1,.agg #[.int .i64 64,v]] wq fun e w' => e = .returned (.bool true) ∧ TB w w' b1 b2 bm M1 K1 J1 M2 K2 J2 (docL M1) v := by
 obtain ⟨F1,F2,h1,h2,h3,h4,h5⟩ := h.st
 have hB:b1 ≤ wq.heap.size := Nat.le_of_lt (h1.mut h1.self).2.2
 have hp:PS (fun k => F2 k ∨ k = bm) wq b1 b1 64 M1 K1 J1 v := ⟨⟨F1,h1,fun k hk => by
  rcases hk with hk | rfl
  ·exact ⟨fun h9 => h3 k h9 hk,(h2.mut hk).2.2⟩
  ·exact ⟨h4,h.m.lt⟩⟩,h.doc.base h.lo.2.1,h.tab,Nat.lt_trans h.glo h.lo.1,hB⟩
 refine (is_any _ _ _ 64 _ _ _ _ _ hp ?_ hJ).mono ?_
 ·rintro (h9 | h9)
  ·exact h3 _ h1.self h9
  ·rw [← h9] at h4
   exact h4 h1.self
 rintro e w' ⟨rfl,hp',hf⟩
 obtain ⟨F',hs',hn'⟩ := hp'.sto
 have hf1:Frm wq w' F1 := hf.mono (fun k hk => .inl (by rw [show k = b1 from hk]; exact h1.self))
 have hi := h1.imm hf1
 have hbl := h1.bel hB hf1
 exact ⟨rfl,⟨F',F2,hs',h2.keep hf1 hi (fun k hk hk1 => h3 k hk1 hk),fun k hk hk2 => (hn' k (.inl hk2)).1 hk,(hn' bm (.inr rfl)).1,h5⟩,h.doc.imm hi,h.m.frm hf1 h4,hp'.tab,h.bel.trans (hbl.mono (Nat.le_of_lt h.lo.1)),h.lo,h.glo⟩
theorem TB.is2 (h:TB w wq b1 b2 bm M1 K1 J1 M2 K2 J2 (docL M2) v) (hJ:J2 ≤ 3518437208882) :
  Calls Tryz.prog 11 #[ptr1 b2,.agg #[.int .i64 64,v]] wq fun e w' => e = .returned (.bool true) ∧ Tab w' ∧ Below w.heap.size w w' := by
 obtain ⟨F1,F2,h1,h2,h3,h4,h5⟩ := h.st
 have hB:b2 ≤ wq.heap.size := Nat.le_of_lt (h2.mut h2.self).2.2
 have hlo := h.lo
 have hp:PS none1 wq b2 b2 64 M2 K2 J2 v := ⟨⟨F2,h2,fun k hk => hk.elim⟩,h.doc,h.tab,by have := h.glo; omega,hB⟩
 refine (is_any _ _ _ 64 _ _ _ _ _ hp (fun h => h) hJ).mono ?_
 rintro e w' ⟨rfl,hp',hf⟩
 have hf1:Frm wq w' F2 := hf.mono (fun k hk => .inl (by rw [show k = b2 from hk]; exact h2.self))
 have hbl := h2.bel hB hf1
 exact ⟨rfl,hp'.tab,h.bel.trans (hbl.mono (by omega))⟩
theorem TB.lay {p q:Option Addr} {n c m d:Nat} {D':List (Nat × Rs)} (h:TB w wq b1 b2 bm M1 K1 J1 M2 K2 J2 D (.slice p n c)) (hd:DocS wq b2 (.slice q m d) D'):TB w ((wq.setCell ⟨bm,0,none⟩ (.int .i64 64)).setCell ⟨bm,1,none⟩ (.slice q m d)) b1 b2 bm M1 K1 J1 M2 K2 J2 D' (.slice q m d) := by
 obtain ⟨F1,F2,h1,h2,h3,h4,h5⟩ := h.st
 obtain ⟨hx,hI,hf⟩ := int_int h.m 64 q m d
 have hlo := h.lo
 have hM:Imm wq ((wq.setCell ⟨bm,0,none⟩ (.int .i64 64)).setCell ⟨bm,1,none⟩ (.slice q m d)) := Imm.of_frm hf (fun k hk => by rw [show k = bm from hk]; exact h.m.mut (pln2 _ _ _ _ _) (by decide))
 have hbl:Below w.heap.size wq _ := hf.below h.bel.size (fun k hk => by rw [show k = bm from hk]; exact hlo.2.2)
 exact ⟨⟨F1,F2,h1.keep hf hM (fun k hk e => h4 (by rw [← show k = bm from e]; exact hk)),h2.keep hf hM (fun k hk e => h5 (by rw [← show k = bm from e]; exact hk)),h3,h4,h5⟩,hd.imm hM,hx,h.tab.keep hbl h.glo,h.bel.trans hbl,h.lo,h.glo⟩
end
def NW (n i:Nat) (t:Int) (r:Rs):Prop := r.L.length ≤ n ∧ (r.tx ≠ t → r.W.length ≤ n) ∧ (r.tx = t → r.W.length ≤ i)
theorem NW.ok {n i J:Nat} {t:Int} {r:Rs} (h:NW n i t r) (ho:OkR J r) {J':Nat} (h1:n ≤ J') (h2:i ≤ J'):OkR J' r := by
 refine ⟨ho.may,ho.mai,ho.sL,ho.sW,Nat.le_trans h.1 h1,?_,ho.top⟩
 by_cases e:r.tx = t
 ·exact Nat.le_trans (h.2.2 e) h2
 ·exact Nat.le_trans (h.2.1 e) h1
theorem NW.les {n:Nat} {t:Int} {r:Rs} (h:OkR n r):NW n 0 t (lesT t r) := by
 unfold lesT
 split
 ·rename_i e
  exact ⟨h.nL,fun _ => Nat.zero_le _,fun _ => Nat.zero_le _⟩
 ·rename_i e
  refine ⟨h.nL,fun _ => h.nW,fun e1 => ?_⟩
  have h0:r.tx = 0 := by
   by_cases h0:r.tx = 0
   ·exact h0
   ·exact absurd ⟨e1,fun e2 => h0 (e1.trans e2)⟩ e
  rw [h.tx0.1 h0]
  exact Nat.le_refl _
theorem putL_len (t:Int) (W:List Rw) (v:Rw):(putL t W v).length ≤ W.length + 1 := by
 unfold putL
 split
 ·exact Nat.zero_le _
 ·rw [List.length_append]
  have := belL_len W v.n
  simp
  omega
theorem NW.up {n i:Nat} {t:Int} {r:Rs} (h:NW n i t r):NW n (i + 1) t r := ⟨h.1,h.2.1,fun e => Nat.le_succ_of_le (h.2.2 e)⟩
theorem NW.wri {n i:Nat} {t:Int} {r:Rs} (h:NW n i t r) (v:Rw):NW n (i + 1) t (wriR r t v) := by
 refine ⟨h.1,fun e => absurd rfl e,fun _ => ?_⟩
 have h1 := putL_len t (wrW r t) v
 have h2:(wrW r t).length ≤ i := by
  unfold wrW
  split
  ·rename_i e
   exact h.2.2 e
  ·exact Nat.zero_le _
 show (putL t (wrW r t) v).length ≤ i + 1
 omega
theorem NW.new (n i:Nat) (t:Int) (v:Rw):NW n (i + 1) t (newR t v) := by
 refine ⟨Nat.zero_le _,fun e => absurd rfl e,fun _ => ?_⟩
 have h1 := putL_len t [] v
 show (putL t [] v).length ≤ i + 1
 simp at h1
 omega
theorem NW.wrt {n i:Nat} {t:Int} {M:List Rs} (h:∀ r ∈ M,NW n i t r) (sl:Int) (v:Rw) (sn:Int):∀ r ∈ wrtM M sl t v sn,NW n (i + 1) t r := by
 intro r hr
 unfold wrtM at hr
 split at hr
 ·rename_i he
  rcases List.mem_or_eq_of_mem_set hr with h1 | rfl
  ·exact (h r h1).up
  ·refine NW.wri ?_ v
   by_cases hs:0 ≤ sl ∧ sl.toNat < M.length
   ·have hg:getR M sl = M[sl.toNat] := by
     unfold getR
     rw [if_neg (by omega),List.getD_eq_getElem?_getD,List.getElem?_eq_getElem hs.2]
     rfl
    rw [hg]
    exact h _ (List.getElem_mem hs.2)
   ·exfalso
    rw [getR_out (by omega)] at he
    simp [wriE,thr,nilR] at he
 ·exact (h r hr).up
theorem NW.add {n i:Nat} {t:Int} {M:List Rs} (h:∀ r ∈ M,NW n i t r) (s:Nat) (v:Rw):∀ r ∈ addM M s (newR t v),NW n (i + 1) t r := by
 intro r hr
 unfold addM at hr
 split at hr
 ·rcases List.mem_or_eq_of_mem_set hr with h1 | rfl
  ·exact (h r h1).up
  ·exact NW.new _ _ _ _
 ·rcases List.mem_append.1 hr with h1 | h1
  ·exact (h r h1).up
  ·rw [List.mem_singleton.1 h1]
   exact NW.new _ _ _ _

end Go.Proofs.YtcibcfghkidncaaGreatDoor

namespace Go.Proofs.YtcibcfghkidncaaGreatDoor
open Go.RowKit Go.Lib
set_option maxRecDepth 100000

def addX (most:Nat) (M:List Rs) (tx:Int) (v:Rw):List Rs := if v.gn || putB tx [] v then M else if most ≤ (docL M).length then M else addM M (freeS M) (newR tx v)
def addN (most:Nat) (M:List Rs) (tx:Int) (v:Rw):Int := if v.gn || putB tx [] v then 0 else if most ≤ (docL M).length then 0 else (freeS M:Nat)
def addE (most:Nat) (M:List Rs) (tx:Int) (v:Rw):Int := if v.gn || putB tx [] v then 1 else if most ≤ (docL M).length then 2 else 0
theorem add_all (B sb most K J:Nat) (M:List Rs) (F:Nat → Prop) (tx vn:Int) (vg:Bool) (vr:List Vl) (qv:Option Addr) (cv:Nat) (w:World) (h:Sto w B sb most M K J F) (hV:SlV w w.heap.size (.slice qv vr.length cv) vr) (hvr:vr.length ≤ 3518437208882) (h1:-9223372036854775808 ≤ tx) (h2:tx < 9223372036854775808) (hT:Tab w) (hg : 1 < B) (hK:K + 2 ≤ 8000000000000000000) :
  Calls Tryz.prog 19 #[ptr1 sb,.int .i64 tx,.agg #[.int .i64 vn,.bool vg,.slice qv vr.length cv]] w fun e w' => e = .returned (.tuple #[.int .i64 (addN most M tx ⟨vn,vg,vr⟩),.int .i64 (addE most M tx ⟨vn,vg,vr⟩)]) ∧ (∃ F',Sto w' B sb most (addX most M tx ⟨vn,vg,vr⟩) (K + 2) (J + 1) F' ∧ ∀ k,F' k → F k ∨ w.heap.size ≤ k) ∧ Frm w w' F := by
 unfold addX addN addE
 dsimp only
 by_cases hbad:(vg || putB tx [] ⟨vn,vg,vr⟩) = true
 ·rw [if_pos hbad,if_pos hbad,if_pos hbad]
  cases vg with
  | true => exact (add_gone B sb most K J M F tx vn true vr qv cv w h rfl).mono fun e w' ⟨h1,h2,h3⟩ => ⟨h1,⟨F,h2.mono (by omega) (by omega),fun k hk => .inl hk⟩,h3⟩
  | false => exact (add_bad B sb most K J M F tx vn false vr qv cv w h rfl hV hvr (by simpa using hbad)).mono fun e w' ⟨h1,h2,h3⟩ => ⟨h1,⟨F,h2.mono (by omega) (by omega),fun k hk => .inl hk⟩,h3⟩
 ·rw [if_neg hbad,if_neg hbad,if_neg hbad]
  obtain ⟨hgn,hp⟩:vg = false ∧ putB tx [] ⟨vn,vg,vr⟩ = false := by simpa using hbad
  by_cases hful:most ≤ (docL M).length
  ·rw [if_pos hful,if_pos hful,if_pos hful]
   obtain ⟨f1,f2⟩ := docL_full h.ok.2.1 hful
   exact (add_full B sb most K J M F tx vn vg vr qv cv w h hgn hV hvr (by have h9 := hp; rw [hgn] at h9; exact h9) h1 h2 hT hg (freeS M) (free_no M) (fun j hj => free_lt hj) f1).mono fun e w' ⟨h1,h2,h3⟩ => ⟨h1,⟨F,h2.mono (by omega) (by omega),fun k hk => .inl hk⟩,h3⟩
  ·rw [if_neg hful,if_neg hful,if_neg hful]
   exact add_ok B sb most K J M F tx vn vg vr qv cv w h hgn hV hvr (by have h9 := hp; rw [hgn] at h9; exact h9) h1 h2 hT hg (freeS M) (free_no M) (fun j hj => free_lt hj) (docL_room h.ok.2.1 (by omega)) hK
theorem SamO.addX {J most:Nat} {t:Int} {M M':List Rs} (h:SamO t M M') (hM:∀ r ∈ M,OkR J r) (v:Rw):SamO t (addX most M t v) M' := by
 unfold Go.Proofs.YtcibcfghkidncaaGreatDoor.addX
 split
 ·exact h
 ·rename_i hb
  split
  ·exact h
  ·exact h.add hM v (by simp at hb; exact hb.2)
theorem NW.addX {n i most:Nat} {t:Int} {M:List Rs} (h:∀ r ∈ M,NW n i t r) (v:Rw):∀ r ∈ addX most M t v,NW n (i + 1) t r := by
 unfold Go.Proofs.YtcibcfghkidncaaGreatDoor.addX
 split
 ·exact fun r hr => (h r hr).up
 ·split
  ·exact fun r hr => (h r hr).up
  ·exact NW.add h _ v
theorem boxA {w:World} {b:Nat} {a0 a1 a2 a3 a4 a5 a6 a7:Value} {T:TypeId} (h:Box w b #[a0,a1,a2,a3,a4,a5,a6,a7] T):w.cell? ⟨b,0,none⟩ = some a0 ∧ w.cell? ⟨b,1,none⟩ = some a1 ∧ w.cell? ⟨b,2,none⟩ = some a2 ∧ w.cell? ⟨b,3,none⟩ = some a3 ∧ w.cell? ⟨b,4,none⟩ = some a4 ∧ w.cell? ⟨b,5,none⟩ = some a5 ∧ w.cell? ⟨b,6,none⟩ = some a6 ∧ w.cell? ⟨b,7,none⟩ = some a7 :=
 ⟨box_cell (i := 0) h rfl,box_cell (i := 1) h rfl,box_cell (i := 2) h rfl,box_cell (i := 3) h rfl,box_cell (i := 4) h rfl,box_cell (i := 5) h rfl,box_cell (i := 6) h rfl,box_cell (i := 7) h rfl⟩
theorem RdA.at {w wq:World} {p:Option Addr} {A:List AcR} {i:Nat} (h:RdA w w.heap.size p A) (hb:Below w.heap.size w wq) (hi:i < A.length):∃ b o q c,p = some ⟨b,o,none⟩ ∧ (wq.cell? ⟨b,o + i * 8,none⟩ = some (.int .i64 A[i].k) ∧ wq.cell? ⟨b,o + i * 8 + 1,none⟩ = some (.int .i64 A[i].sl) ∧ wq.cell? ⟨b,o + i * 8 + 2,none⟩ = some (.int .i64 A[i].tx) ∧ wq.cell? ⟨b,o + i * 8 + 3,none⟩ = some (.int .i64 A[i].v.n) ∧ wq.cell? ⟨b,o + i * 8 + 4,none⟩ = some (.bool A[i].v.gn) ∧ wq.cell? ⟨b,o + i * 8 + 5,none⟩ = some (.slice q A[i].v.row.length c) ∧ wq.cell? ⟨b,o + i * 8 + 6,none⟩ = some (.int .u64 A[i].st) ∧ wq.cell? ⟨b,o + i * 8 + 7,none⟩ = some (.int .i64 A[i].lv)) ∧ SlV wq wq.heap.size (.slice q A[i].v.row.length c) A[i].v.row := by
 obtain ⟨b,o,q,c,e,hlt,⟨c0,c1,c2,c3,c4,c5,c6,c7⟩,hr,hq⟩ := h i hi
 have kk:∀ (m:Nat) (v:Option Value),w.cell? ⟨b,m,none⟩ = v → wq.cell? ⟨b,m,none⟩ = v := fun m v hc => (hb.cell (p := ⟨b,m,none⟩) hlt).trans hc
 exact ⟨b,o,q,c,e,⟨kk _ _ c0,kk _ _ c1,kk _ _ c2,kk _ _ c3,kk _ _ c4,kk _ _ c5,kk _ _ c6,kk _ _ c7⟩,SlV.imm (w := w) ⟨q,c,rfl,hr,hq⟩ (Imm.of_below hb)⟩

end Go.Proofs.YtcibcfghkidncaaGreatDoor
