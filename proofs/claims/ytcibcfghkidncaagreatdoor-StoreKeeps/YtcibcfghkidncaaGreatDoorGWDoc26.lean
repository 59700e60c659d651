/- A store and the document's beside it. The law's own: Row, Int, ints, own. A store tells what the document tells. does: an act, by both: what all kinds want. -/
import Derived.Deep.Cut
import Derived.Deep.CutRange
import Derived.Test.YtcibcfghkidncaaGreatDoorGWDoc23
import Derived.Test.YtcibcfghkidncaaGreatDoorGWSto22
import Derived.Test.YtcibcfghkidncaaGreatDoorGWSto28
import Derived.Test.YtcibcfghkidncaaGreatDoorGWSto25
import Derived.Test.YtcibcfghkidncaaGreatDoorGWSto11
import Derived.Test.YtcibcfghkidncaaGreatDoorGWRFd8
import Derived.Test.YtcibcfghkidncaaGreatDoorGWCpy
namespace Go.Proofs.YtcibcfghkidncaaGreatDoor
open Go.RowKit Go.Lib
set_option maxRecDepth 100000

set_option maxHeartbeats 2000000 in
theorem foldD_bad (B0 most:Nat) (v:Value) (L:List (Nat × Rs)) (t s:Int) (w:World) (h:DocS w B0 v L) (hs:s < 1) :
  Calls Tryz.prog 36 #[.agg #[.int .i64 (most:Nat),v],.int .i64 t,.int .i64 s] w fun e w' => e = .returned (.tuple #[.agg #[.int .i64 (most:Nat),v],.int .i64 1]) ∧ DocS w' B0 v L ∧ Below w.heap.size w w' := by
 obtain ⟨p,c,rfl,_⟩ := h.len
 obtain ⟨a1,a2,a3,a4⟩ := two_new w #[.int .i64 (most:Nat),.slice p L.length c] #[.int .i64 0,.slice none 0 0] 29 29
 have HS:Hid (Box _ _ _ _) := a1
 have HR:Hid (Box _ _ _ _) := a2
 have HB:Hid (Below _ _ _) := a3
 have HD:Hid (DocS w B0 (.slice p L.length c) L) := h
 clear h a1 a2 a3 a4
 generalize L.length = n at *
 go_enter Tryz.func36,Tryz.ntmps36
 go_upto_region 1 with fail
 generalize ((w.alloc (.cells #[.int .i64 (most:Nat),.slice p n c] 29)).alloc (.cells #[.int .i64 0,.slice none 0 0] 29)) = w0 at *
 obtain ⟨q0,q1,_,_⟩ := box2 HS.out
 obtain ⟨r0,r1,r2,r3⟩ := box2 HR.out
 go_wp2_with fail
 obtain ⟨f0,f1,fb,_⟩ := ret2 HB.out HR.out (by omega) (most:Nat) (.slice p n c)
 generalize (w0.setCell ⟨w.heap.size + 1,0,none⟩ (.int .i64 (most:Nat))).setCell ⟨w.heap.size + 1,1,none⟩ (.slice p n c) = w9 at *
 (try simp only [Exit.inBlock,Exit.then])
 refine bodyPost_ret (v := .tuple #[.agg #[.int .i64 (most:Nat),.slice p n c],.int .i64 1]) (by simp [results,Tryz.results36,go_sem,f0,f1]) rfl ?_
 exact ⟨rfl,HD.out.on fb,fb⟩

theorem DocS.imm {w w':World} {B:Nat} {v:Value} {L:List (Nat × Rs)} (h:DocS w B v L) (hi:Imm w w'):DocS w' B v L := by
 obtain ⟨Z,e,ho,hz⟩ := h
 refine ⟨Z,e,⟨ho.1,?_⟩,fun z hm => ⟨(hz z hm).1.imm hi,(hz z hm).2.imm hi⟩⟩
 rcases ho.2 with h1 | ⟨g,cap,cur,e,hb',hg,r⟩
 ·exact .inl h1
 ·exact .inr ⟨g,cap,cur,e,hb',(hi.blk g _ _ _ hg (.inr (by simp [immT]))).trans hg,r⟩
section
variable {w w':World} {B sb most:Nat} {M:List Rs} {K J:Nat} {F:Nat → Prop}
theorem Sto.on (h:Sto w B sb most M K J F) (hb:Below w.heap.size w w'):Sto w' B sb most M K J F := by
 obtain ⟨pb,dl,dm,pv,tv,C,T,sv,wo,hX,hd0,hI,hW,hF⟩ := h
 exact ⟨pb,dl,dm,pv,tv,C,T,sv,wo,hX.on hb,hd0,hI,hW,hF⟩
theorem Sto.mut (h:Sto w B sb most M K J F) {k:Nat} (hk:F k):MutB w k ∧ B ≤ k ∧ k < w.heap.size := by
 obtain ⟨pb,dl,dm,pv,tv,C,T,sv,wo,hX,hd0,hI,hW,hF⟩ := h
 exact hX.mut ((hF k).1 hk)
theorem Sto.imm (h:Sto w B sb most M K J F) (hf:Frm w w' F):Imm w w' := Imm.of_frm hf (fun _ hk => (h.mut hk).1)
theorem Sto.bel (h:Sto w B sb most M K J F) (hB:B ≤ w.heap.size) (hf:Frm w w' F):Below B w w' := hf.below hB (fun _ hk => (h.mut hk).2.1)
theorem Sto.ok (h:Sto w B sb most M K J F):(∀ r ∈ M,OkR J r) ∧ M.length ≤ most ∧ most ≤ 65536 ∧ B ≤ sb ∧ sb < w.heap.size := by
 obtain ⟨pb,dl,dm,pv,tv,C,T,sv,wo,hX,hd0,hI,hW,hF⟩ := h
 exact ⟨hI.ok,hI.len,hI.mst,hX.base,hX.blk.lt⟩
theorem InvT.jmono {J':Nat} {T:List Nat} (h:InvT J most M T) (hj:J ≤ J'):InvT J' most M T := ⟨fun r hr => (h.ok r hr).mono hj,h.len,h.mst,h.bit,h.tl,h.tw⟩
theorem Sto.mono {K' J':Nat} (h:Sto w B sb most M K J F) (hk:K ≤ K') (hj:J ≤ J'):Sto w B sb most M K' J' F := by
 obtain ⟨pb,dl,dm,pv,tv,C,T,sv,wo,hX,hd0,hI,hW,hF⟩ := h
 exact ⟨pb,dl,dm,pv,tv,C,T,sv,wo,hX.mono hk,hd0,hI.jmono hj,hW,hF⟩
end
structure PS (N:Nat → Prop) (w:World) (B sb most:Nat) (M:List Rs) (K J:Nat) (v:Value):Prop where
 sto:∃ F,Sto w B sb most M K J F ∧ ∀ k,N k → ¬ F k ∧ k < w.heap.size
 doc:DocS w B v (docL M)
 tab:Tab w
 glo : 1 < B
 hB:B ≤ w.heap.size
abbrev frN (B:Nat) (N:Nat → Prop):Nat → Prop := fun k => B ≤ k ∧ ¬ N k
section
variable {N:Nat → Prop} {w w':World} {B sb most:Nat} {M M':List Rs} {K J K' J':Nat} {v v':Value}
theorem PS.on (h:PS N w B sb most M K J v) (hb:Below w.heap.size w w'):PS N w' B sb most M K J v := by
 obtain ⟨F,hs,hn⟩ := h.sto
 exact ⟨⟨F,hs.on hb,fun k hk => ⟨(hn k hk).1,Nat.lt_of_lt_of_le (hn k hk).2 hb.size⟩⟩,h.doc.on hb,h.tab.keep hb (Nat.lt_of_lt_of_le h.glo h.hB),h.glo,Nat.le_trans h.hB hb.size⟩
theorem PS.mono (h:PS N w B sb most M K J v) (hk:K ≤ K') (hj:J ≤ J'):PS N w B sb most M K' J' v := by
 obtain ⟨F,hs,hn⟩ := h.sto
 exact ⟨⟨F,hs.mono hk hj,hn⟩,h.doc,h.tab,h.glo,h.hB⟩
theorem PS.step {F F':Nat → Prop} (h:PS N w B sb most M K J v) (hs:Sto w B sb most M K J F) (hn:∀ k,N k → ¬ F k ∧ k < w.heap.size) (hd:DocS w B v' (docL M')) (hs':Sto w' B sb most M' K' J' F') (hF':∀ k,F' k → F k ∨ w.heap.size ≤ k) (hf:Frm w w' F):PS N w' B sb most M' K' J' v' ∧ Frm w w' (frN B N) := by
 refine ⟨⟨⟨F',hs',fun k hk => ⟨fun hf9 => ?_,Nat.lt_of_lt_of_le (hn k hk).2 hf.size⟩⟩,hd.imm (hs.imm hf),h.tab.keep (hs.bel h.hB hf) h.glo,h.glo,Nat.le_trans h.hB hf.size⟩,hf.mono (fun k hk => .inl ⟨(hs.mut hk).2.1,fun hN => (hn k hN).1 hk⟩)⟩
 rcases hF' k hf9 with h1 | h1
 ·exact (hn k hk).1 h1
 ·have := (hn k hk).2
  omega
theorem PS.len (h:PS N w B sb most M K J v):(docL M).length ≤ 65536 := by
 obtain ⟨F,hs,_⟩ := h.sto
 have h1 := hs.ok
 have h2 := docL_len M
 omega
theorem PS.ok (h:PS N w B sb most M K J v):(∀ r ∈ M,OkR J r) ∧ M.length ≤ most ∧ most ≤ 65536 ∧ B ≤ sb ∧ sb < w.heap.size := by
 obtain ⟨F,hs,_⟩ := h.sto
 exact hs.ok
theorem PS.okL (h:PS N w B sb most M K J v):∀ q ∈ docL M,OkR J q.2 ∧ thr q.2 = true := fun _q hq => ⟨docL_ok h.ok.1 hq,(docL_mem hq).2⟩
theorem PS.less {N':Nat → Prop} (h:PS N w B sb most M K J v) (hn:∀ k,N' k → N k):PS N' w B sb most M K J v := by
 obtain ⟨F,hs,hn9⟩ := h.sto
 exact ⟨⟨F,hs,fun k hk => hn9 k (hn k hk)⟩,h.doc,h.tab,h.glo,h.hB⟩
set_option maxHeartbeats 2000000 in
theorem slotsS_PS (h:PS N w B sb most M K J v) (_hN:¬ N sb) :
  Calls Tryz.prog 29 #[ptr1 sb] w fun e w' => (∃ v1,e = .returned v1 ∧ OwnI w' w.heap.size v1 (slM M)) ∧ PS N w' B sb most M K J v ∧ Frm w w' (one1 sb) := by
 obtain ⟨F,⟨pb,dl,dm,pv,tv,C,T,sv,wo,hX,hd0,hI,hW,hF⟩,hn⟩ := h.sto
 refine (slots_any w hX h.tab hI.tw hI.tlen h.glo).mono ?_
 rintro e w1 ⟨⟨v1,rfl,ho⟩,hX1,hf⟩
 rw [hI.slots] at ho
 have hs:Sto w B sb most M K J F := ⟨pb,dl,dm,pv,tv,C,T,sv,wo,hX,hd0,hI,hW,hF⟩
 have hFs:F sb := (hF sb).2 (.inl rfl)
 have hf2:Frm w w1 F := hf.mono (fun k hk => .inl (by rw [show k = sb from hk]; exact hFs))
 exact ⟨⟨_,rfl,ho⟩,(h.step hs hn h.doc ⟨pb,dl,dm,pv,tv,C,T,sv,wo,hX1,hd0,hI,hW,hF⟩ (fun k hk => .inl hk) hf2).1,hf⟩
theorem versionsS_PS (h:PS N w B sb most M K J v) (hJ:J ≤ 3518437208882) (s:Int) :
  Calls Tryz.prog 25 #[ptr1 sb,.int .i64 s] w fun e w' => (∃ p c,e = .returned (.slice p (getR M s).L.length c) ∧ SlR .u64 w' (.slice p (getR M s).L.length c) (getR M s).L) ∧ Below w.heap.size w w' := by
 obtain ⟨F,⟨pb,dl,dm,pv,tv,C,T,sv,wo,hX,hd0,hI,hW,hF⟩,hn⟩ := h.sto
 refine (versionsS_any s w hX (by rw [hX.plc.len]; have h1 := hI.len; have h2 := hI.mst; omega) J hI.ok hJ).mono ?_
 rintro e w1 ⟨⟨v1,Z,rfl,hZ,ho⟩,hb⟩
 obtain ⟨p,c,e,hn9,hr⟩ := ho.rd hZ
 exact ⟨⟨p,c,by rw [e],⟨p,c,rfl,hr,fun _ => hn9⟩⟩,hb⟩
theorem intentS_PS (h:PS N w B sb most M K J v) (hJ:J ≤ 3518437208882) (s:Int) :
  Calls Tryz.prog 26 #[ptr1 sb,.int .i64 s] w fun e w' => (∃ p c,e = .returned (.agg #[.int .i64 (getR M s).tx,.slice p (getR M s).W.length c]) ∧ SlR .i64 w' (.slice p (getR M s).W.length c) (getR M s).W) ∧ Below w.heap.size w w' := by
 obtain ⟨F,⟨pb,dl,dm,pv,tv,C,T,sv,wo,hX,hd0,hI,hW,hF⟩,hn⟩ := h.sto
 refine (intentS_any s w hX (by rw [hX.plc.len]; have h1 := hI.len; have h2 := hI.mst; omega) J hI.ok hJ).mono ?_
 rintro e w1 ⟨⟨v1,Z,rfl,hZ,ho⟩,hb⟩
 obtain ⟨p,c,e,hn9,hr⟩ := ho.rd hZ
 exact ⟨⟨p,c,by rw [e],⟨p,c,rfl,hr,fun h => by cases h⟩⟩,hb⟩
theorem versionsD_PS (h:PS N w B sb most M K J v) (s:Int) :
  Calls Tryz.prog 32 #[.agg #[.int .i64 (most:Nat),v],.int .i64 s] w fun e w' => (∃ p c,e = .returned (.slice p (getR M s).L.length c) ∧ SlR .u64 w' (.slice p (getR M s).L.length c) (getR M s).L) ∧ Below w.heap.size w w' := by
 refine (versionsD_any B most v M s w h.doc h.len).mono ?_
 rintro e w1 ⟨⟨v1,rfl,hs⟩,hb⟩
 have hs' := hs
 obtain ⟨p,c,rfl,_⟩ := hs
 exact ⟨⟨p,c,rfl,hs'⟩,hb⟩
theorem intentD_PS (h:PS N w B sb most M K J v) (s:Int) :
  Calls Tryz.prog 34 #[.agg #[.int .i64 (most:Nat),v],.int .i64 s] w fun e w' => (∃ p c,e = .returned (.agg #[.int .i64 (getR M s).tx,.slice p (getR M s).W.length c]) ∧ SlR .i64 w' (.slice p (getR M s).W.length c) (getR M s).W) ∧ Below w.heap.size w w' := by
 refine (intentD_any B most J v M s w h.doc (OkR.get h.ok.1 s) h.len).mono ?_
 rintro e w1 ⟨⟨v1,rfl,hs⟩,hb⟩
 have hs' := hs
 obtain ⟨p,c,rfl,_⟩ := hs
 exact ⟨⟨p,c,rfl,hs'⟩,hb⟩
end

end Go.Proofs.YtcibcfghkidncaaGreatDoor

namespace Go.Proofs.YtcibcfghkidncaaGreatDoor
open Go.RowKit Go.Lib
set_option maxRecDepth 100000

set_option maxHeartbeats 2000000 in
theorem row_any (L:List Vl) (p:Option Addr) (c:Nat) (w:World) (hR:RowV w w.heap.size p L) (hlen:L.length ≤ 3518437208882) :
  Calls Tryz.prog 22 #[.slice p L.length c] w fun e w' => ∃ v,e = .returned v ∧ OwnV w' w.heap.size v L ∧ Below w.heap.size w w' := by
 have HA:Hid (RowV _ _ _ _) := hR
 clear hR
 go_enter Tryz.func22,Tryz.ntmps22
 go_wp2_with fail
 go_loopw [3,4] (fun u i wr => ∃ j:Nat,j ≤ L.length ∧ i = .int .i64 (j:Int) ∧ Hid (OwnV wr w.heap.size u (L.take j)) ∧ Below w.heap.size w wr) (fun _ i _ => L.length - (intOf i).toNat)
 case atStart => exact ⟨0,Nat.zero_le _,by go_num,World.ownsRow_lit w #[] 0 (Nat.le_refl _) (Nat.zero_le _) rfl,by go_grown⟩
 case round =>
  obtain ⟨j,hj,rfl,hO,hn⟩ := hrel
  by_cases hj0:j = L.length
  ·subst hj0
   rw [List.take_length] at hO
   go_wp2
   go_ret
   exact ⟨_,rfl,hO.out,hn⟩
  ·have hj1:j < L.length := by omega
   obtain ⟨b,o,rfl,hbB,d0,d1,d2,d3⟩ := HA.out j hj1
   have a0 := (hn.cell (p := ⟨b,o + j * 4,none⟩) hbB).trans d0
   have a1 := (hn.cell (p := ⟨b,o + j * 4 + 1,none⟩) hbB).trans d1
   have a2 := (hn.cell (p := ⟨b,o + j * 4 + 2,none⟩) hbB).trans d2
   have a3 := (hn.cell (p := ⟨b,o + j * 4 + 3,none⟩) hbB).trans d3
   have HS:Hid (L.take (j + 1) = L.take j ++ [L[j]]) := (List.take_append_getElem hj1).symm
   have hul:(L.take j).length ≤ j := by simp; omega
   clear d0 d1 d2 d3
   generalize L.take j = U at *
   generalize L[j] = r at *
   obtain ⟨rk,rn,rf,rs⟩ := r
   dsimp only at a0 a1 a2 a3
   go_wp2_with (first | (at_builtin; refine wpList_appV _ rfl (.tmp 12) _ rfl w.heap.size _ _ rfl hO.out ⟨rk,rn,rf,rs⟩ _ rfl (by simp) (by omega) hn.size ?_; intro v6 w6 h6 h7))
   go_roundw
   case rel => exact ⟨j + 1,hj1,by go_num,(show OwnV _ _ _ _ by rw [HS.out]; exact h6),hn.trans h7⟩
   case measure => simp [intOf]; omega

set_option maxHeartbeats 2000000 in
theorem rint_any (n:Int) (w:World):Calls Tryz.prog 24 #[.int .i64 n] w fun e w' => e = .returned (.agg #[.int .i64 2,.int .i64 n,.float .f64 0,.string ⟨#[]⟩]) ∧ Below w.heap.size w w' := by
 have hsf := run_store_float
 go_enter Tryz.func24,Tryz.ntmps24
 go_wp2
 refine bodyPost_ret (v := .agg #[.int .i64 2,.int .i64 n,.float .f64 0,.string ⟨#[]⟩]) (by simp [results,Tryz.results24,go_sem]) rfl ?_
 exact ⟨rfl,by go_grown⟩

theorem OwnI.at {w:World} {B:Nat} {v:Value} {L:List Nat} (h:OwnI w B v L) {i:Nat} (hi:i < L.length):∃ g c,v = .slice (some ⟨g,0,none⟩) L.length c ∧ g < w.heap.size ∧ w.cell? ⟨g,i,none⟩ = some (.int .i64 (L[i]:Nat)) := by
 obtain ⟨g,cap,e,_,hg⟩ := owns_form h (by omega)
 subst e
 refine ⟨g,cap,rfl,hg,?_⟩
 have := World.ownsRow.cellAt h i (by omega)
 rw [this]
 unfold icells
 rw [List.getElem?_map,List.getElem?_eq_getElem hi]
 rfl

set_option maxHeartbeats 2000000 in
theorem ints_eq (L:List Nat) (B B2:Nat) (va vb:Value) (w:World) (hA:OwnI w B va L) (hB:OwnI w B2 vb L) (hl:L.length ≤ 65536) :
  Calls Tryz.prog 28 #[va,vb] w fun e w' => e = .returned (.bool true) ∧ Below w.heap.size w w' := by
 obtain ⟨pa,ca,rfl,_⟩ := owns_len hA
 obtain ⟨pb,cb,rfl,_⟩ := owns_len hB
 have HA:Hid (OwnI w B (.slice pa L.length ca) L ∧ OwnI w B2 (.slice pb L.length cb) L) := ⟨hA,hB⟩
 clear hA hB
 obtain ⟨n,hn⟩:∃ n,L.length = n := ⟨_,rfl⟩
 rw [hn] at HA hl
 rw [hn]
 have HN:Hid (L.length = n) := hn
 clear hn
 go_enter Tryz.func28,Tryz.ntmps28
 go_wp2_with fail
 go_loopw [5] (fun i wr => ∃ j:Nat,j ≤ n ∧ i = .int .i64 (j:Int) ∧ Below w.heap.size w wr) (fun i _ => n - (intOf i).toNat)
 case atStart => exact ⟨0,Nat.zero_le _,by go_num,Below.refl _ _⟩
 case round =>
  obtain ⟨j,hj,rfl,hb⟩ := hrel
  by_cases hj0:j = n
  ·subst hj0
   go_wp2_with fail
   go_ret
   exact ⟨rfl,hb⟩
  ·have hj1:j < L.length := by rw [HN.out]; omega
   have hjn:j < n := by omega
   obtain ⟨h1,h2⟩ := HA.out
   obtain ⟨ga,ca',e1,hga,a1⟩ := h1.at hj1
   obtain ⟨gb,cb',e2,hgb,a2⟩ := h2.at hj1
   injection e1 with e1 _ _
   injection e2 with e2 _ _
   subst e1 e2
   have b1 := (hb.cell (p := ⟨ga,j,none⟩) hga).trans a1
   have b2 := (hb.cell (p := ⟨gb,j,none⟩) hgb).trans a2
   clear a1 a2 h1 h2
   generalize L[j] = y at *
   have HB:Hid (Below w.heap.size w wr) := hb
   go_wp2_with fail
   go_quiet (fail)
   go_wp2_with fail
   go_roundw
   case rel => exact ⟨j + 1,by omega,by go_num,below_drewN HB.out _⟩
   case measure => simp [intOf]; omega

theorem SlV.row {w:World} {B:Nat} {q:Option Addr} {n c:Nat} {L:List Vl} (h:SlV w B (.slice q n c) L):RowV w B q L := by
 obtain ⟨q',c',e,h,_⟩ := h
 injection e with e1 _ _
 rw [e1]
 exact h

set_option maxHeartbeats 2000000 in
theorem own_any (vn:Int) (vg:Bool) (vr:List Vl) (qv:Option Addr) (cv:Nat) (w:World) (hV:SlV w w.heap.size (.slice qv vr.length cv) vr) (hl:vr.length ≤ 3518437208882) :
  Calls Tryz.prog 20 #[.agg #[.int .i64 vn,.bool vg,.slice qv vr.length cv]] w fun e w' => (∃ q' c',e = .returned (.agg #[.int .i64 vn,.bool vg,.slice q' vr.length c']) ∧ SlV w' w'.heap.size (.slice q' vr.length c') vr) ∧ Below w.heap.size w w' := by
 obtain ⟨a1,a2,a3,a4⟩ := two_new w #[.int .i64 vn,.bool vg,.slice qv vr.length cv] #[.int .i64 0,.bool false,.slice none 0 0] 38 38
 have hV1 := hV.imm (Imm.of_below a3)
 have C1:Hid (Calls _ _ _ _ _) := row_any vr qv cv _ hV1.row (by omega)
 have HX:Hid (Box _ _ _ _) := a1
 have HR:Hid (Box _ _ _ _) := a2
 have HB:Hid (Below _ _ _) := a3
 have HS:Hid (((w.alloc (.cells #[.int .i64 vn,.bool vg,.slice qv vr.length cv] 38)).alloc (.cells #[.int .i64 0,.bool false,.slice none 0 0] 38)).heap.size = w.heap.size + 2) := a4
 clear a1 a2 a3 a4 hV hV1
 obtain ⟨nv,hnv⟩:∃ nv,vr.length = nv := ⟨_,rfl⟩
 rw [hnv] at C1 HX HR HB HS
 rw [hnv]
 have HN:Hid (vr.length = nv) := hnv
 clear hnv hl
 go_enter Tryz.func20,Tryz.ntmps20
 go_upto_region 1 with fail
 generalize ((w.alloc (.cells #[.int .i64 vn,.bool vg,.slice qv nv cv] 38)).alloc (.cells #[.int .i64 0,.bool false,.slice none 0 0] 38)) = w0 at *
 obtain ⟨⟨x0,x1,x2⟩,y0,y1,y2⟩ := box3 HX.out
 go_wp2_with fail
 refine C1.out.mono ?_
 rintro e w1 ⟨v1,rfl,ho,hb1⟩
 have HX1:Hid (Box w1 w.heap.size #[.int .i64 vn,.bool vg,.slice qv nv cv] 38) := HX.out.on hb1
 have HR1:Hid (Box w1 (w.heap.size + 1) #[.int .i64 0,.bool false,.slice none 0 0] 38) := HR.out.on hb1
 have HB1:Hid (Below w.heap.size w w1) := HB.out.trans (hb1.mono HB.out.size)
 obtain ⟨q1,c1,e1,_⟩ := owns_len ho
 have e2:v1 = .slice q1 nv c1 := by rw [e1,HN.out]
 subst e2
 have HO1:Hid (OwnV w1 w0.heap.size (.slice q1 nv c1) vr) := ho
 clear ho hb1 C1 x0 x1 x2 y0 y1 y2 e1
 obtain ⟨⟨x0,x1,x2⟩,y0,y1,y2⟩ := box3 HX1.out
 go_upto_region 2 with fail
 have HX2:Hid (Box (w1.setCell ⟨w.heap.size,2,none⟩ (.slice q1 nv c1)) w.heap.size #[.int .i64 vn,.bool vg,.slice q1 nv c1] 38) := HX1.out.set (i := 2) (.slice q1 nv c1)
 have hF2 := frm_set w1 w.heap.size 2 (.slice q1 nv c1) (F := one1 w.heap.size) (.inl rfl)
 have HR2:Hid (Box (w1.setCell ⟨w.heap.size,2,none⟩ (.slice q1 nv c1)) (w.heap.size + 1) #[.int .i64 0,.bool false,.slice none 0 0] 38) := HR1.out.frm hF2 (fun e => by have h9:w.heap.size + 1 = w.heap.size := e; omega)
 have HB2:Hid (Below w.heap.size w (w1.setCell ⟨w.heap.size,2,none⟩ (.slice q1 nv c1))) := HB1.out.trans (hF2.below HB1.out.size (fun j hj => by rw [show j = w.heap.size from hj]; exact Nat.le_refl _))
 have HO2:Hid (OwnV (w1.setCell ⟨w.heap.size,2,none⟩ (.slice q1 nv c1)) w0.heap.size (.slice q1 nv c1) vr) := HO1.out.off (i := 2) (.slice q1 nv c1) (by have h9 := HS.out; omega)
 clear hF2 HX1 HR1 HB1 HO1 x0 x1 x2 y0 y1 y2
 generalize (w1.setCell ⟨w.heap.size,2,none⟩ (.slice q1 nv c1)) = w2 at *
 obtain ⟨⟨x0,x1,x2⟩,y0,y1,y2⟩ := box3 HX2.out
 obtain ⟨⟨r0,r1,r2⟩,s0,s1,s2⟩ := box3 HR2.out
 go_wp2_with fail
 have h1 := HR2.out.set (i := 0) (.int .i64 vn)
 have h2 := h1.set (i := 1) (.bool vg)
 have h3 := h2.set (i := 2) (.slice q1 nv c1)
 have hO9 := ((HO2.out.off (j := w.heap.size + 1) (i := 0) (.int .i64 vn) (by have h9 := HS.out; omega)).off (j := w.heap.size + 1) (i := 1) (.bool vg) (by have h9 := HS.out; omega)).off (j := w.heap.size + 1) (i := 2) (.slice q1 nv c1) (by have h9 := HS.out; omega)
 have hF := ((frm_set w2 (w.heap.size + 1) 0 (.int .i64 vn) (F := one1 (w.heap.size + 1)) (.inl rfl)).trans (frm_set _ (w.heap.size + 1) 1 (.bool vg) (F := one1 (w.heap.size + 1)) (.inl rfl)) (fun k hk => .inl hk)).trans (frm_set _ (w.heap.size + 1) 2 (.slice q1 nv c1) (F := one1 (w.heap.size + 1)) (.inl rfl)) (fun k hk => .inl hk)
 have hB9 := HB2.out.trans (hF.below HB2.out.size (fun j hj => by rw [show j = w.heap.size + 1 from hj]; exact Nat.le_succ _))
 obtain ⟨⟨f0,f1,f2⟩,_⟩ := box3 (a := .int .i64 vn) (b := .bool vg) (c := .slice q1 nv c1) h3
 clear h1 h2 h3 hF
 generalize ((w2.setCell ⟨w.heap.size + 1,0,none⟩ (.int .i64 vn)).setCell ⟨w.heap.size + 1,1,none⟩ (.bool vg)).setCell ⟨w.heap.size + 1,2,none⟩ (.slice q1 nv c1) = w9 at *
 (try simp only [Exit.inBlock,Exit.then])
 refine bodyPost_ret (v := .agg #[.int .i64 vn,.bool vg,.slice q1 nv c1]) (by simp [results,Tryz.results20,go_sem,f0,f1,f2]) rfl ?_
 exact ⟨⟨_,_,rfl,hO9.sl⟩,hB9⟩

end Go.Proofs.YtcibcfghkidncaaGreatDoor

namespace Go.Proofs.YtcibcfghkidncaaGreatDoor
open Go.RowKit Go.Lib
set_option maxRecDepth 100000

structure IW (N:Nat → Prop) (w wq:World) (B sb most:Nat) (M:List Rs) (Kn J:Nat) (v:Value):Prop where
 ps:PS N wq B sb most M Kn J v
 fr:Frm w wq (one1 sb)
 x:Box wq w.heap.size #[.int .i64 (most:Nat),v] 29
 hs:sb < w.heap.size
section
variable {N:Nat → Prop} {w wq w':World} {B sb most:Nat} {M:List Rs} {Kn J:Nat} {v:Value}
theorem IW.on (h:IW N w wq B sb most M Kn J v) (hb:Below wq.heap.size wq w'):IW N w w' B sb most M Kn J v := ⟨h.ps.on hb,h.fr.trans (Frm.of_below hb (F := none1)) (fun _ h => h.elim),h.x.on hb,h.hs⟩
theorem IW.frm (h:IW N w wq B sb most M Kn J v) (hp:PS N w' B sb most M Kn J v) (hf:Frm wq w' (one1 sb)):IW N w w' B sb most M Kn J v := ⟨hp,h.fr.trans hf (fun _ h => .inl h),h.x.frm hf (fun e => by have h9:w.heap.size = sb := e; have := h.hs; omega),h.hs⟩
end

set_option maxHeartbeats 16000000 in
theorem is_any (N:Nat → Prop) (B sb most:Nat) (M:List Rs) (Kn J:Nat) (v:Value) (w:World) (h:PS N w B sb most M Kn J v) (hN:¬ N sb) (hJ:J ≤ 3518437208882) :
  Calls Tryz.prog 11 #[ptr1 sb,.agg #[.int .i64 (most:Nat),v]] w fun e w' => e = .returned (.bool true) ∧ PS N w' B sb most M Kn J v ∧ Frm w w' (one1 sb) := by
 obtain ⟨bX,bB,bS⟩ := one_new w #[.int .i64 (most:Nat),v] 29
 have HI0:Hid (IW N w (w.alloc (.cells #[.int .i64 (most:Nat),v] 29)).drew B sb most M Kn J v) := ⟨h.on bB.drew,Frm.of_below bB.drew,bX,h.ok.2.2.2.2⟩
 have HOk:Hid (∀ s,OkR J (getR M s)) := fun s => OkR.get h.ok.1 s
 have hsl:(slM M).length ≤ 65536 := by have h1 := slM_len M; have h2 := h.ok; omega
 obtain ⟨p,c,e,_⟩ := h.doc.len
 obtain ⟨n,hn⟩:∃ n,(docL M).length = n := ⟨_,rfl⟩
 rw [hn] at e
 have HN:Hid ((docL M).length = n) := hn
 have hnl:n ≤ 65536 := by rw [← hn]; exact h.len
 have HD:Hid (DocS w B v (docL M)) := h.doc
 have HSb:Hid (∀ q ∈ docL M,q.1 < 65536) := fun q hq => by
  unfold docL at hq
  obtain ⟨x,hx,rfl⟩ := List.mem_map.1 hq
  have h1 := (List.mem_filter.1 hx).1
  rw [List.mem_range] at h1
  have h2 := h.ok
  show x < 65536
  omega
 clear bX bB bS h hn
 subst e
 go_enter Tryz.func11,Tryz.ntmps11
 go_upto_region 1 with fail
 generalize (w.alloc (.cells #[.int .i64 (most:Nat),.slice p n c] 29)) = w0 at *
 go_cut [12] from 7 to 12 (fun b wx => b = .bool false ∧ Hid (IW N w wx B sb most M Kn J (.slice p n c)))
 case first =>
  refine wp_region_any (by kernel_rfl) ?_
  change wpAny _ _ _ _ _ _ _ (World.drew _)
  refine tk (v := ?_) 0 rfl ?_ ?_
  rotate_left
  focus
   intro w9
   go_simp
   try with_reducible rfl
  try simp only [aP]
  refine wpAny_ready (rs := [1,2]) (by kernel_rfl) (by simp) ?_
  refine anyN_cons 1 rfl (by rfl) (fun K hK => ?_) (anyN_cons 2 rfl (by rfl) (fun K hK => ?_) AllReady.nil)
  ·go_simp
   refine (slotsS_PS HI0.out.ps hN).mono ?_
   rintro e wa1 ⟨⟨va1,rfl,hoa⟩,hps,hfr⟩
   dsimp only
   have HI1:Hid (IW N w wa1 B sb most M Kn J (.slice p n c)) := HI0.out.frm hps hfr
   have HA1:Hid (OwnI wa1 _ va1 (slM M)) := hoa
   clear hoa hps hfr
   refine hK.out _ _ ?_
   clear hK K
   try simp only [aP]
   refine wpAny_ready (rs := [2]) (by kernel_rfl) (by simp) ?_
   refine anyN_cons 2 rfl (by rfl) (fun K hK => ?_) AllReady.nil
   obtain ⟨g0,g1,_,_⟩ := box2 HI1.out.x
   go_simp
   refine hK.out _ _ ?_
   clear hK K
   try simp only [aP]
   refine wpAny_ready (rs := [3]) (by kernel_rfl) (by simp) ?_
   refine anyN_cons 3 rfl (by rfl) (fun K hK => ?_) AllReady.nil
   go_simp
   refine (slotsD_any B most (.slice p n c) (docL M) _ HI1.out.ps.doc HI1.out.ps.len).mono ?_
   rintro e wb3 ⟨⟨vb3,rfl,hob⟩,hbw⟩
   dsimp only
   rw [docL_slots] at hob
   have HI3:Hid (IW N w wb3 B sb most M Kn J (.slice p n c)) := HI1.out.on hbw
   have HB3:Hid (OwnI wb3 wa1.heap.size vb3 (slM M)) := hob
   have HS3:Hid (sb < wa1.heap.size) := HI1.out.ps.ok.2.2.2.2
   have HC3:Hid (OwnI wb3 _ va1 (slM M)) := owns_kept HA1.out hbw
   clear hob hbw
   refine hK.out _ _ ?_
   clear hK K
   try simp only [aP]
   refine wpAny_ready (rs := [4]) (by kernel_rfl) (by simp) ?_
   refine anyN_cons 4 rfl (by rfl) (fun K hK => ?_) AllReady.nil
   go_simp
   refine (ints_eq (slM M) _ _ va1 vb3 _ HC3.out HB3.out hsl).mono ?_
   rintro e wc4 ⟨rfl,hbw⟩
   dsimp only
   have HI4:Hid (IW N w wc4 B sb most M Kn J (.slice p n c)) := HI3.out.on hbw
   clear hbw
   refine hK.out _ _ ?_
   clear hK K
   try simp only [aP]
   refine tk (v := ?_) 5 rfl ?_ ?_
   rotate_left
   focus
    intro w9
    go_simp
    try with_reducible rfl
   try simp only [aP]
   refine wpAny_done (by kernel_rfl) ?_ _
   go_wp2_with fail
   go_meet
   exact ⟨rfl,HI4⟩
  ·obtain ⟨g0,g1,_,_⟩ := box2 HI0.out.x
   go_simp
   refine hK.out _ _ ?_
   clear hK K
   try simp only [aP]
   refine wpAny_ready (rs := [1]) (by kernel_rfl) (by simp) ?_
   refine anyN_cons 1 rfl (by rfl) (fun K hK => ?_) AllReady.nil
   go_simp
   refine (slotsS_PS HI0.out.ps hN).mono ?_
   rintro e wa6 ⟨⟨va6,rfl,hoa⟩,hps,hfr⟩
   dsimp only
   have HI6:Hid (IW N w wa6 B sb most M Kn J (.slice p n c)) := HI0.out.frm hps hfr
   have HA6:Hid (OwnI wa6 _ va6 (slM M)) := hoa
   clear hoa hps hfr
   refine hK.out _ _ ?_
   clear hK K
   try simp only [aP]
   refine wpAny_ready (rs := [3]) (by kernel_rfl) (by simp) ?_
   refine anyN_cons 3 rfl (by rfl) (fun K hK => ?_) AllReady.nil
   go_simp
   refine (slotsD_any B most (.slice p n c) (docL M) _ HI6.out.ps.doc HI6.out.ps.len).mono ?_
   rintro e wb7 ⟨⟨vb7,rfl,hob⟩,hbw⟩
   dsimp only
   rw [docL_slots] at hob
   have HI7:Hid (IW N w wb7 B sb most M Kn J (.slice p n c)) := HI6.out.on hbw
   have HB7:Hid (OwnI wb7 wa6.heap.size vb7 (slM M)) := hob
   have HS7:Hid (sb < wa6.heap.size) := HI6.out.ps.ok.2.2.2.2
   have HC7:Hid (OwnI wb7 _ va6 (slM M)) := owns_kept HA6.out hbw
   clear hob hbw
   refine hK.out _ _ ?_
   clear hK K
   try simp only [aP]
   refine wpAny_ready (rs := [4]) (by kernel_rfl) (by simp) ?_
   refine anyN_cons 4 rfl (by rfl) (fun K hK => ?_) AllReady.nil
   go_simp
   refine (ints_eq (slM M) _ _ va6 vb7 _ HC7.out HB7.out hsl).mono ?_
   rintro e wc8 ⟨rfl,hbw⟩
   dsimp only
   have HI8:Hid (IW N w wc8 B sb most M Kn J (.slice p n c)) := HI7.out.on hbw
   clear hbw
   refine hK.out _ _ ?_
   clear hK K
   try simp only [aP]
   refine tk (v := ?_) 5 rfl ?_ ?_
   rotate_left
   focus
    intro w9
    go_simp
    try with_reducible rfl
   try simp only [aP]
   refine wpAny_done (by kernel_rfl) ?_ _
   go_wp2_with fail
   go_meet
   exact ⟨rfl,HI8⟩
 case rest =>
  obtain ⟨rfl,HIe⟩ := hcut
  go_wp2_with fail
  go_loopw [5] (fun i wq => ∃ j:Nat,j ≤ n + 2 ∧ i = .int .i64 ((j:Int) - 1) ∧ Hid (IW N w wq B sb most M Kn J (.slice p n c))) (fun i _ => n + 2 - (intOf i + 1).toNat)
  case atStart => exact ⟨0,by omega,by first | rfl | go_num,HIe⟩
  case round =>
   obtain ⟨j,hj,hi5,HI⟩ := hrel
   obtain ⟨g0,g1,_,_⟩ := box2 HI.out.x
   have HIr:Hid (IW N w wr.drew B sb most M Kn J (.slice p n c)) := HI.out.on ((Below.refl _ _).drew)
   by_cases hj0:j = n + 2
   ·have hj1:¬ ((j:Nat):Int) - 1 ≤ ((n:Nat):Int) := by omega
    subst hi5
    go_wp2_with fail
    go_ret
    exact ⟨rfl,HI.out.ps,HI.out.fr⟩
   ·by_cases ha:j = 0
    ·subst ha
     have hi6:u5 = .int .i64 (-1) := by rw [hi5]; rfl
     clear hi5
     subst hi6
     have hn0:((n:Nat):Int) ≠ -1 := by omega
     have hn1:((-1:Int) == ((n:Nat):Int)) = false := by first | (simp; done) | (simp; omega)
     have hn2:((-1:Int) ≤ ((n:Nat):Int)) := by omega
     go_upto_region 11 with fail
     go_cut [69] from 13 to 69 (fun b wx => b = .bool false ∧ Hid (IW N w wx B sb most M Kn J (.slice p n c)))
     case first =>
      refine wp_region_any (by kernel_rfl) ?_
      change wpAny _ _ _ _ _ _ _ (World.drew _)
      refine tk (v := ?_) 0 rfl ?_ ?_
      rotate_left
      focus
       intro w9
       go_simp
       try with_reducible rfl
      try simp only [aP]
      refine tk (v := ?_) 1 rfl ?_ ?_
      rotate_left
      focus
       intro w9
       go_simp
       try with_reducible rfl
      try simp only [aP]
      refine tk (v := ?_) 4 rfl ?_ ?_
      rotate_left
      focus
       intro w9
       go_simp
       try with_reducible rfl
      try simp only [aP]
      apply later9 (fun (w6:World) (_:Option Addr) (_:Nat) (_:Option Addr) (_:Nat) (_:Option Addr) (_:Nat) (_:Option Addr) (_:Nat) => Hid (IW N w w6 B sb most M Kn J (.slice p n c)))
      intro hs2_3_5_6_11_12_14_15
      apply later9 (fun (w5:World) (_:Option Addr) (_:Nat) (_:Option Addr) (_:Nat) (p3:Option Addr) (c3:Nat) (p4:Option Addr) (c4:Nat) => Hid (IW N w w5 B sb most M Kn J (.slice p n c) ∧ SlR .i64 w5 (.slice p3 (getR M (-1)).W.length c3) (getR M (-1)).W ∧ SlR .i64 w5 (.slice p4 (getR M (-1)).W.length c4) (getR M (-1)).W))
      intro hs2_3_5_6_11_12_14
      apply later7 (fun (w4:World) (_:Option Addr) (_:Nat) (_:Option Addr) (_:Nat) (p3:Option Addr) (c3:Nat) => Hid (IW N w w4 B sb most M Kn J (.slice p n c) ∧ SlR .i64 w4 (.slice p3 (getR M (-1)).W.length c3) (getR M (-1)).W))
      intro hs2_3_5_6_11_12
      apply later5 (fun (w3:World) (_:Option Addr) (_:Nat) (_:Option Addr) (_:Nat) => Hid (IW N w w3 B sb most M Kn J (.slice p n c)))
      intro hs2_3_5_6_12
      apply later7 (fun (w4:World) (_:Option Addr) (_:Nat) (_:Option Addr) (_:Nat) (p3:Option Addr) (c3:Nat) => Hid (IW N w w4 B sb most M Kn J (.slice p n c) ∧ SlR .i64 w4 (.slice p3 (getR M (-1)).W.length c3) (getR M (-1)).W))
      intro hs2_3_5_6_11
      apply later5 (fun (w3:World) (_:Option Addr) (_:Nat) (_:Option Addr) (_:Nat) => Hid (IW N w w3 B sb most M Kn J (.slice p n c)))
      intro hs2_3_5_6
      apply later5 (fun (w2:World) (p1:Option Addr) (c1:Nat) (p2:Option Addr) (c2:Nat) => Hid (IW N w w2 B sb most M Kn J (.slice p n c) ∧ SlR .u64 w2 (.slice p1 (getR M (-1)).L.length c1) (getR M (-1)).L ∧ SlR .u64 w2 (.slice p2 (getR M (-1)).L.length c2) (getR M (-1)).L))
      intro hs2_3_5
      apply later3 (fun (w1:World) (p1:Option Addr) (c1:Nat) => Hid (IW N w w1 B sb most M Kn J (.slice p n c) ∧ SlR .u64 w1 (.slice p1 (getR M (-1)).L.length c1) (getR M (-1)).L))
      intro hs2_3
      apply later0
      intro hs3
      apply later3 (fun (w1:World) (p1:Option Addr) (c1:Nat) => Hid (IW N w w1 B sb most M Kn J (.slice p n c) ∧ SlR .u64 w1 (.slice p1 (getR M (-1)).L.length c1) (getR M (-1)).L))
      intro hs2
      ·obtain ⟨g0,g1,_,_⟩ := box2 HIr.out.x
       refine wpAny_ready (rs := [2,3]) (by kernel_rfl) (by simp) ?_
       refine anyN_cons 2 rfl (by rfl) (fun K hK => ?_) (anyN_cons 3 rfl (by rfl) (fun K hK => ?_) AllReady.nil)
       ·go_simp
        refine (versionsS_PS HIr.out.ps hJ (-1)).mono ?_
        rintro e w1 ⟨⟨p1,c1,rfl,hs1⟩,hbw⟩
        dsimp only
        have Q1:Hid (IW N w w1 B sb most M Kn J (.slice p n c) ∧ SlR .u64 w1 (.slice p1 (getR M (-1)).L.length c1) (getR M (-1)).L) := ⟨HIr.out.on hbw,hs1⟩
        clear hbw
        refine hK.out _ _ ?_
        clear hK K
        try simp only [aP]
        exact hs2 w1 p1 c1 Q1
       ·go_simp
        refine hK.out _ _ ?_
        clear hK K
        try simp only [aP]
        exact hs3
      ·intro w1 p1 c1 Q1
       obtain ⟨g0,g1,_,_⟩ := box2 Q1.out.1.x
       refine wpAny_ready (rs := [3]) (by kernel_rfl) (by simp) ?_
       refine anyN_cons 3 rfl (by rfl) (fun K hK => ?_) AllReady.nil
       go_simp
       refine hK.out _ _ ?_
       clear hK K
       try simp only [aP]
       exact hs2_3 w1 p1 c1 Q1
      ·obtain ⟨g0,g1,_,_⟩ := box2 HIr.out.x
       refine wpAny_ready (rs := [2]) (by kernel_rfl) (by simp) ?_
       refine anyN_cons 2 rfl (by rfl) (fun K hK => ?_) AllReady.nil
       go_simp
       refine (versionsS_PS HIr.out.ps hJ (-1)).mono ?_
       rintro e w1 ⟨⟨p1,c1,rfl,hs1⟩,hbw⟩
       dsimp only
       have Q1:Hid (IW N w w1 B sb most M Kn J (.slice p n c) ∧ SlR .u64 w1 (.slice p1 (getR M (-1)).L.length c1) (getR M (-1)).L) := ⟨HIr.out.on hbw,hs1⟩
       clear hbw
       refine hK.out _ _ ?_
       clear hK K
       try simp only [aP]
       exact hs2_3 w1 p1 c1 Q1
      ·intro w1 p1 c1 Q1
       obtain ⟨g0,g1,_,_⟩ := box2 Q1.out.1.x
       refine wpAny_ready (rs := [5]) (by kernel_rfl) (by simp) ?_
       refine anyN_cons 5 rfl (by rfl) (fun K hK => ?_) AllReady.nil
       go_simp
       refine (versionsD_PS Q1.out.1.ps (-1)).mono ?_
       rintro e w2 ⟨⟨p2,c2,rfl,hs2⟩,hbw⟩
       dsimp only
       have Q2:Hid (IW N w w2 B sb most M Kn J (.slice p n c) ∧ SlR .u64 w2 (.slice p1 (getR M (-1)).L.length c1) (getR M (-1)).L ∧ SlR .u64 w2 (.slice p2 (getR M (-1)).L.length c2) (getR M (-1)).L) := ⟨Q1.out.1.on hbw,Q1.out.2.imm (Imm.of_below hbw),hs2⟩
       clear hbw
       refine hK.out _ _ ?_
       clear hK K
       try simp only [aP]
       exact hs2_3_5 w2 p1 c1 p2 c2 Q2
      ·intro w2 p1 c1 p2 c2 Q2
       obtain ⟨g0,g1,_,_⟩ := box2 Q2.out.1.x
       refine wpAny_ready (rs := [6]) (by kernel_rfl) (by simp) ?_
       refine anyN_cons 6 rfl (by rfl) (fun K hK => ?_) AllReady.nil
       go_simp
       refine (sameChain_eq _ _ _ _ _ _ Q2.out.2.1.rd Q2.out.2.2.rd (by have h8 := (HOk.out (-1)).nL; omega) (HOk.out (-1)).sL).mono ?_
       rintro e w3 ⟨rfl,hbw⟩
       dsimp only
       have Q3:Hid (IW N w w3 B sb most M Kn J (.slice p n c)) := Q2.out.1.on hbw
       clear hbw
       refine hK.out _ _ ?_
       clear hK K
       try simp only [aP]
       refine tk (v := ?_) 7 rfl ?_ ?_
       rotate_left
       focus
        intro w9
        go_simp
        try with_reducible rfl
       try simp only [aP]
       refine tk (v := ?_) 8 rfl ?_ ?_
       rotate_left
       focus
        intro w9
        go_simp
        try with_reducible rfl
       try simp only [aP]
       refine tk (v := ?_) 9 rfl ?_ ?_
       rotate_left
       focus
        intro w9
        go_simp
        try with_reducible rfl
       try simp only [aP]
       refine tk (v := ?_) 10 rfl ?_ ?_
       rotate_left
       focus
        intro w9
        go_simp
        try with_reducible rfl
       try simp only [aP]
       refine tk (v := ?_) 13 rfl ?_ ?_
       rotate_left
       focus
        intro w9
        go_simp
        try with_reducible rfl
       try simp only [aP]
       exact hs2_3_5_6 w3 p1 c1 p2 c2 Q3
      ·intro w3 p1 c1 p2 c2 Q3
       obtain ⟨g0,g1,_,_⟩ := box2 Q3.out.x
       refine wpAny_ready (rs := [11,12]) (by kernel_rfl) (by simp) ?_
       refine anyN_cons 11 rfl (by rfl) (fun K hK => ?_) (anyN_cons 12 rfl (by rfl) (fun K hK => ?_) AllReady.nil)
       ·go_simp
        refine (intentS_PS Q3.out.ps hJ (-1)).mono ?_
        rintro e w4 ⟨⟨p3,c3,rfl,hs3⟩,hbw⟩
        dsimp only
        have Q4:Hid (IW N w w4 B sb most M Kn J (.slice p n c) ∧ SlR .i64 w4 (.slice p3 (getR M (-1)).W.length c3) (getR M (-1)).W) := ⟨Q3.out.on hbw,hs3⟩
        clear hbw
        refine hK.out _ _ ?_
        clear hK K
        try simp only [aP]
        exact hs2_3_5_6_11 w4 p1 c1 p2 c2 p3 c3 Q4
       ·go_simp
        refine hK.out _ _ ?_
        clear hK K
        try simp only [aP]
        exact hs2_3_5_6_12 w3 p1 c1 p2 c2 Q3
      ·intro w4 p1 c1 p2 c2 p3 c3 Q4
       obtain ⟨g0,g1,_,_⟩ := box2 Q4.out.1.x
       refine wpAny_ready (rs := [12]) (by kernel_rfl) (by simp) ?_
       refine anyN_cons 12 rfl (by rfl) (fun K hK => ?_) AllReady.nil
       go_simp
       refine hK.out _ _ ?_
       clear hK K
       try simp only [aP]
       exact hs2_3_5_6_11_12 w4 p1 c1 p2 c2 p3 c3 Q4
      ·intro w3 p1 c1 p2 c2 Q3
       obtain ⟨g0,g1,_,_⟩ := box2 Q3.out.x
       refine wpAny_ready (rs := [11]) (by kernel_rfl) (by simp) ?_
       refine anyN_cons 11 rfl (by rfl) (fun K hK => ?_) AllReady.nil
       go_simp
       refine (intentS_PS Q3.out.ps hJ (-1)).mono ?_
       rintro e w4 ⟨⟨p3,c3,rfl,hs3⟩,hbw⟩
       dsimp only
       have Q4:Hid (IW N w w4 B sb most M Kn J (.slice p n c) ∧ SlR .i64 w4 (.slice p3 (getR M (-1)).W.length c3) (getR M (-1)).W) := ⟨Q3.out.on hbw,hs3⟩
       clear hbw
       refine hK.out _ _ ?_
       clear hK K
       try simp only [aP]
       exact hs2_3_5_6_11_12 w4 p1 c1 p2 c2 p3 c3 Q4
      ·intro w4 p1 c1 p2 c2 p3 c3 Q4
       obtain ⟨g0,g1,_,_⟩ := box2 Q4.out.1.x
       refine wpAny_ready (rs := [14]) (by kernel_rfl) (by simp) ?_
       refine anyN_cons 14 rfl (by rfl) (fun K hK => ?_) AllReady.nil
       go_simp
       refine (intentD_PS Q4.out.1.ps (-1)).mono ?_
       rintro e w5 ⟨⟨p4,c4,rfl,hs4⟩,hbw⟩
       dsimp only
       have Q5:Hid (IW N w w5 B sb most M Kn J (.slice p n c) ∧ SlR .i64 w5 (.slice p3 (getR M (-1)).W.length c3) (getR M (-1)).W ∧ SlR .i64 w5 (.slice p4 (getR M (-1)).W.length c4) (getR M (-1)).W) := ⟨Q4.out.1.on hbw,Q4.out.2.imm (Imm.of_below hbw),hs4⟩
       clear hbw
       refine hK.out _ _ ?_
       clear hK K
       try simp only [aP]
       exact hs2_3_5_6_11_12_14 w5 p1 c1 p2 c2 p3 c3 p4 c4 Q5
      ·intro w5 p1 c1 p2 c2 p3 c3 p4 c4 Q5
       obtain ⟨g0,g1,_,_⟩ := box2 Q5.out.1.x
       refine wpAny_ready (rs := [15]) (by kernel_rfl) (by simp) ?_
       refine anyN_cons 15 rfl (by rfl) (fun K hK => ?_) AllReady.nil
       go_simp
       refine (sameIntent_eq _ _ _ _ _ _ _ Q5.out.2.1.rd Q5.out.2.2.rd (by have h8 := (HOk.out (-1)).nW; omega) (HOk.out (-1)).sW).mono ?_
       rintro e w6 ⟨rfl,hbw⟩
       dsimp only
       have Q6:Hid (IW N w w6 B sb most M Kn J (.slice p n c)) := Q5.out.1.on hbw
       clear hbw
       refine hK.out _ _ ?_
       clear hK K
       try simp only [aP]
       refine tk (v := ?_) 16 rfl ?_ ?_
       rotate_left
       focus
        intro w9
        go_simp
        try with_reducible rfl
       try simp only [aP]
       refine tk (v := ?_) 17 rfl ?_ ?_
       rotate_left
       focus
        intro w9
        go_simp
        try with_reducible rfl
       try simp only [aP]
       exact hs2_3_5_6_11_12_14_15 w6 p1 c1 p2 c2 p3 c3 p4 c4 Q6
      ·intro w6 p1 c1 p2 c2 p3 c3 p4 c4 Q6
       refine wpAny_done (by kernel_rfl) ?_ _
       go_wp2_with fail
       go_meet
       exact ⟨rfl,Q6⟩
     case rest =>
      obtain ⟨rfl,HIc⟩ := hcut
      go_wp2_with fail
      go_roundw
      case rel => exact ⟨0 + 1,by omega,by first | rfl | go_num,HIc⟩
      case measure => (simp [intOf]; try omega)
    ·by_cases hb:j = n + 1
     ·subst hb
      rcases Nat.eq_zero_or_pos n with hn0 | hn0
      ·subst hn0
       have hi6:u5 = .int .i64 0 := by rw [hi5]; rfl
       clear hi5
       subst hi6
       go_upto_region 11 with fail
       go_cut [69] from 13 to 69 (fun b wx => b = .bool false ∧ Hid (IW N w wx B sb most M Kn J (.slice p 0 c)))
       case first =>
        refine wp_region_any (by kernel_rfl) ?_
        change wpAny _ _ _ _ _ _ _ (World.drew _)
        refine tk (v := ?_) 0 rfl ?_ ?_
        rotate_left
        focus
         intro w9
         go_simp
         try with_reducible rfl
        try simp only [aP]
        refine tk (v := ?_) 1 rfl ?_ ?_
        rotate_left
        focus
         intro w9
         go_simp
         try with_reducible rfl
        try simp only [aP]
        refine tk (v := ?_) 4 rfl ?_ ?_
        rotate_left
        focus
         intro w9
         go_simp
         try with_reducible rfl
        try simp only [aP]
        apply later9 (fun (w6:World) (_:Option Addr) (_:Nat) (_:Option Addr) (_:Nat) (_:Option Addr) (_:Nat) (_:Option Addr) (_:Nat) => Hid (IW N w w6 B sb most M Kn J (.slice p 0 c)))
        intro hs2_3_5_6_11_12_14_15
        apply later9 (fun (w5:World) (_:Option Addr) (_:Nat) (_:Option Addr) (_:Nat) (p3:Option Addr) (c3:Nat) (p4:Option Addr) (c4:Nat) => Hid (IW N w w5 B sb most M Kn J (.slice p 0 c) ∧ SlR .i64 w5 (.slice p3 (getR M (-1)).W.length c3) (getR M (-1)).W ∧ SlR .i64 w5 (.slice p4 (getR M (-1)).W.length c4) (getR M (-1)).W))
        intro hs2_3_5_6_11_12_14
        apply later7 (fun (w4:World) (_:Option Addr) (_:Nat) (_:Option Addr) (_:Nat) (p3:Option Addr) (c3:Nat) => Hid (IW N w w4 B sb most M Kn J (.slice p 0 c) ∧ SlR .i64 w4 (.slice p3 (getR M (-1)).W.length c3) (getR M (-1)).W))
        intro hs2_3_5_6_11_12
        apply later5 (fun (w3:World) (_:Option Addr) (_:Nat) (_:Option Addr) (_:Nat) => Hid (IW N w w3 B sb most M Kn J (.slice p 0 c)))
        intro hs2_3_5_6_12
        apply later7 (fun (w4:World) (_:Option Addr) (_:Nat) (_:Option Addr) (_:Nat) (p3:Option Addr) (c3:Nat) => Hid (IW N w w4 B sb most M Kn J (.slice p 0 c) ∧ SlR .i64 w4 (.slice p3 (getR M (-1)).W.length c3) (getR M (-1)).W))
        intro hs2_3_5_6_11
        apply later5 (fun (w3:World) (_:Option Addr) (_:Nat) (_:Option Addr) (_:Nat) => Hid (IW N w w3 B sb most M Kn J (.slice p 0 c)))
        intro hs2_3_5_6
        apply later5 (fun (w2:World) (p1:Option Addr) (c1:Nat) (p2:Option Addr) (c2:Nat) => Hid (IW N w w2 B sb most M Kn J (.slice p 0 c) ∧ SlR .u64 w2 (.slice p1 (getR M (-1)).L.length c1) (getR M (-1)).L ∧ SlR .u64 w2 (.slice p2 (getR M (-1)).L.length c2) (getR M (-1)).L))
        intro hs2_3_5
        apply later3 (fun (w1:World) (p1:Option Addr) (c1:Nat) => Hid (IW N w w1 B sb most M Kn J (.slice p 0 c) ∧ SlR .u64 w1 (.slice p1 (getR M (-1)).L.length c1) (getR M (-1)).L))
        intro hs2_3
        apply later0
        intro hs3
        apply later3 (fun (w1:World) (p1:Option Addr) (c1:Nat) => Hid (IW N w w1 B sb most M Kn J (.slice p 0 c) ∧ SlR .u64 w1 (.slice p1 (getR M (-1)).L.length c1) (getR M (-1)).L))
        intro hs2
        ·obtain ⟨g0,g1,_,_⟩ := box2 HIr.out.x
         refine wpAny_ready (rs := [2,3]) (by kernel_rfl) (by simp) ?_
         refine anyN_cons 2 rfl (by rfl) (fun K hK => ?_) (anyN_cons 3 rfl (by rfl) (fun K hK => ?_) AllReady.nil)
         ·go_simp
          refine (versionsS_PS HIr.out.ps hJ (-1)).mono ?_
          rintro e w1 ⟨⟨p1,c1,rfl,hs1⟩,hbw⟩
          dsimp only
          have Q1:Hid (IW N w w1 B sb most M Kn J (.slice p 0 c) ∧ SlR .u64 w1 (.slice p1 (getR M (-1)).L.length c1) (getR M (-1)).L) := ⟨HIr.out.on hbw,hs1⟩
          clear hbw
          refine hK.out _ _ ?_
          clear hK K
          try simp only [aP]
          exact hs2 w1 p1 c1 Q1
         ·go_simp
          refine hK.out _ _ ?_
          clear hK K
          try simp only [aP]
          exact hs3
        ·intro w1 p1 c1 Q1
         obtain ⟨g0,g1,_,_⟩ := box2 Q1.out.1.x
         refine wpAny_ready (rs := [3]) (by kernel_rfl) (by simp) ?_
         refine anyN_cons 3 rfl (by rfl) (fun K hK => ?_) AllReady.nil
         go_simp
         refine hK.out _ _ ?_
         clear hK K
         try simp only [aP]
         exact hs2_3 w1 p1 c1 Q1
        ·obtain ⟨g0,g1,_,_⟩ := box2 HIr.out.x
         refine wpAny_ready (rs := [2]) (by kernel_rfl) (by simp) ?_
         refine anyN_cons 2 rfl (by rfl) (fun K hK => ?_) AllReady.nil
         go_simp
         refine (versionsS_PS HIr.out.ps hJ (-1)).mono ?_
         rintro e w1 ⟨⟨p1,c1,rfl,hs1⟩,hbw⟩
         dsimp only
         have Q1:Hid (IW N w w1 B sb most M Kn J (.slice p 0 c) ∧ SlR .u64 w1 (.slice p1 (getR M (-1)).L.length c1) (getR M (-1)).L) := ⟨HIr.out.on hbw,hs1⟩
         clear hbw
         refine hK.out _ _ ?_
         clear hK K
         try simp only [aP]
         exact hs2_3 w1 p1 c1 Q1
        ·intro w1 p1 c1 Q1
         obtain ⟨g0,g1,_,_⟩ := box2 Q1.out.1.x
         refine wpAny_ready (rs := [5]) (by kernel_rfl) (by simp) ?_
         refine anyN_cons 5 rfl (by rfl) (fun K hK => ?_) AllReady.nil
         go_simp
         refine (versionsD_PS Q1.out.1.ps (-1)).mono ?_
         rintro e w2 ⟨⟨p2,c2,rfl,hs2⟩,hbw⟩
         dsimp only
         have Q2:Hid (IW N w w2 B sb most M Kn J (.slice p 0 c) ∧ SlR .u64 w2 (.slice p1 (getR M (-1)).L.length c1) (getR M (-1)).L ∧ SlR .u64 w2 (.slice p2 (getR M (-1)).L.length c2) (getR M (-1)).L) := ⟨Q1.out.1.on hbw,Q1.out.2.imm (Imm.of_below hbw),hs2⟩
         clear hbw
         refine hK.out _ _ ?_
         clear hK K
         try simp only [aP]
         exact hs2_3_5 w2 p1 c1 p2 c2 Q2
        ·intro w2 p1 c1 p2 c2 Q2
         obtain ⟨g0,g1,_,_⟩ := box2 Q2.out.1.x
         refine wpAny_ready (rs := [6]) (by kernel_rfl) (by simp) ?_
         refine anyN_cons 6 rfl (by rfl) (fun K hK => ?_) AllReady.nil
         go_simp
         refine (sameChain_eq _ _ _ _ _ _ Q2.out.2.1.rd Q2.out.2.2.rd (by have h8 := (HOk.out (-1)).nL; omega) (HOk.out (-1)).sL).mono ?_
         rintro e w3 ⟨rfl,hbw⟩
         dsimp only
         have Q3:Hid (IW N w w3 B sb most M Kn J (.slice p 0 c)) := Q2.out.1.on hbw
         clear hbw
         refine hK.out _ _ ?_
         clear hK K
         try simp only [aP]
         refine tk (v := ?_) 7 rfl ?_ ?_
         rotate_left
         focus
          intro w9
          go_simp
          try with_reducible rfl
         try simp only [aP]
         refine tk (v := ?_) 8 rfl ?_ ?_
         rotate_left
         focus
          intro w9
          go_simp
          try with_reducible rfl
         try simp only [aP]
         refine tk (v := ?_) 9 rfl ?_ ?_
         rotate_left
         focus
          intro w9
          go_simp
          try with_reducible rfl
         try simp only [aP]
         refine tk (v := ?_) 10 rfl ?_ ?_
         rotate_left
         focus
          intro w9
          go_simp
          try with_reducible rfl
         try simp only [aP]
         refine tk (v := ?_) 13 rfl ?_ ?_
         rotate_left
         focus
          intro w9
          go_simp
          try with_reducible rfl
         try simp only [aP]
         exact hs2_3_5_6 w3 p1 c1 p2 c2 Q3
        ·intro w3 p1 c1 p2 c2 Q3
         obtain ⟨g0,g1,_,_⟩ := box2 Q3.out.x
         refine wpAny_ready (rs := [11,12]) (by kernel_rfl) (by simp) ?_
         refine anyN_cons 11 rfl (by rfl) (fun K hK => ?_) (anyN_cons 12 rfl (by rfl) (fun K hK => ?_) AllReady.nil)
         ·go_simp
          refine (intentS_PS Q3.out.ps hJ (-1)).mono ?_
          rintro e w4 ⟨⟨p3,c3,rfl,hs3⟩,hbw⟩
          dsimp only
          have Q4:Hid (IW N w w4 B sb most M Kn J (.slice p 0 c) ∧ SlR .i64 w4 (.slice p3 (getR M (-1)).W.length c3) (getR M (-1)).W) := ⟨Q3.out.on hbw,hs3⟩
          clear hbw
          refine hK.out _ _ ?_
          clear hK K
          try simp only [aP]
          exact hs2_3_5_6_11 w4 p1 c1 p2 c2 p3 c3 Q4
         ·go_simp
          refine hK.out _ _ ?_
          clear hK K
          try simp only [aP]
          exact hs2_3_5_6_12 w3 p1 c1 p2 c2 Q3
        ·intro w4 p1 c1 p2 c2 p3 c3 Q4
         obtain ⟨g0,g1,_,_⟩ := box2 Q4.out.1.x
         refine wpAny_ready (rs := [12]) (by kernel_rfl) (by simp) ?_
         refine anyN_cons 12 rfl (by rfl) (fun K hK => ?_) AllReady.nil
         go_simp
         refine hK.out _ _ ?_
         clear hK K
         try simp only [aP]
         exact hs2_3_5_6_11_12 w4 p1 c1 p2 c2 p3 c3 Q4
        ·intro w3 p1 c1 p2 c2 Q3
         obtain ⟨g0,g1,_,_⟩ := box2 Q3.out.x
         refine wpAny_ready (rs := [11]) (by kernel_rfl) (by simp) ?_
         refine anyN_cons 11 rfl (by rfl) (fun K hK => ?_) AllReady.nil
         go_simp
         refine (intentS_PS Q3.out.ps hJ (-1)).mono ?_
         rintro e w4 ⟨⟨p3,c3,rfl,hs3⟩,hbw⟩
         dsimp only
         have Q4:Hid (IW N w w4 B sb most M Kn J (.slice p 0 c) ∧ SlR .i64 w4 (.slice p3 (getR M (-1)).W.length c3) (getR M (-1)).W) := ⟨Q3.out.on hbw,hs3⟩
         clear hbw
         refine hK.out _ _ ?_
         clear hK K
         try simp only [aP]
         exact hs2_3_5_6_11_12 w4 p1 c1 p2 c2 p3 c3 Q4
        ·intro w4 p1 c1 p2 c2 p3 c3 Q4
         obtain ⟨g0,g1,_,_⟩ := box2 Q4.out.1.x
         refine wpAny_ready (rs := [14]) (by kernel_rfl) (by simp) ?_
         refine anyN_cons 14 rfl (by rfl) (fun K hK => ?_) AllReady.nil
         go_simp
         refine (intentD_PS Q4.out.1.ps (-1)).mono ?_
         rintro e w5 ⟨⟨p4,c4,rfl,hs4⟩,hbw⟩
         dsimp only
         have Q5:Hid (IW N w w5 B sb most M Kn J (.slice p 0 c) ∧ SlR .i64 w5 (.slice p3 (getR M (-1)).W.length c3) (getR M (-1)).W ∧ SlR .i64 w5 (.slice p4 (getR M (-1)).W.length c4) (getR M (-1)).W) := ⟨Q4.out.1.on hbw,Q4.out.2.imm (Imm.of_below hbw),hs4⟩
         clear hbw
         refine hK.out _ _ ?_
         clear hK K
         try simp only [aP]
         exact hs2_3_5_6_11_12_14 w5 p1 c1 p2 c2 p3 c3 p4 c4 Q5
        ·intro w5 p1 c1 p2 c2 p3 c3 p4 c4 Q5
         obtain ⟨g0,g1,_,_⟩ := box2 Q5.out.1.x
         refine wpAny_ready (rs := [15]) (by kernel_rfl) (by simp) ?_
         refine anyN_cons 15 rfl (by rfl) (fun K hK => ?_) AllReady.nil
         go_simp
         refine (sameIntent_eq _ _ _ _ _ _ _ Q5.out.2.1.rd Q5.out.2.2.rd (by have h8 := (HOk.out (-1)).nW; omega) (HOk.out (-1)).sW).mono ?_
         rintro e w6 ⟨rfl,hbw⟩
         dsimp only
         have Q6:Hid (IW N w w6 B sb most M Kn J (.slice p 0 c)) := Q5.out.1.on hbw
         clear hbw
         refine hK.out _ _ ?_
         clear hK K
         try simp only [aP]
         refine tk (v := ?_) 16 rfl ?_ ?_
         rotate_left
         focus
          intro w9
          go_simp
          try with_reducible rfl
         try simp only [aP]
         refine tk (v := ?_) 17 rfl ?_ ?_
         rotate_left
         focus
          intro w9
          go_simp
          try with_reducible rfl
         try simp only [aP]
         exact hs2_3_5_6_11_12_14_15 w6 p1 c1 p2 c2 p3 c3 p4 c4 Q6
        ·intro w6 p1 c1 p2 c2 p3 c3 p4 c4 Q6
         refine wpAny_done (by kernel_rfl) ?_ _
         go_wp2_with fail
         go_meet
         exact ⟨rfl,Q6⟩
       case rest =>
        obtain ⟨rfl,HIc⟩ := hcut
        go_wp2_with fail
        go_roundw
        case rel => exact ⟨0 + 1 + 1,by omega,by first | rfl | go_num,HIc⟩
        case measure => (simp [intOf]; try omega)
      ·obtain ⟨m,hm⟩:∃ m,n = m + 1 := ⟨n - 1,by omega⟩
       subst hm
       have hi:m < (docL M).length := by rw [HN.out]; omega
       obtain ⟨⟨k,rL,tx,rW⟩,hq⟩:∃ q,(docL M)[m] = q := ⟨_,rfl⟩
       have hk:k < 65536 := by have h9 := HSb.out _ (List.getElem_mem hi); rw [hq] at h9; exact h9
       obtain ⟨g,pl,cl,pw,cw,e,⟨a0,a1,a2,a3⟩,_,_⟩ := HI.out.ps.doc.row (Below.refl _ _) hi hq
       subst e
       clear hq hi
       have hi6:u5 = .int .i64 ((m + 1:Nat):Int) := by rw [hi5]; congr 1; omega
       clear hi5
       subst hi6
       go_upto_region 11 with fail
       go_cut [69] from 13 to 69 (fun b wx => b = .bool false ∧ Hid (IW N w wx B sb most M Kn J (.slice (some ⟨g,0,none⟩) (m + 1) c)))
       case first =>
        refine wp_region_any (by kernel_rfl) ?_
        change wpAny _ _ _ _ _ _ _ (World.drew _)
        refine tk (v := ?_) 0 rfl ?_ ?_
        rotate_left
        focus
         intro w9
         go_simp
         try with_reducible rfl
        try simp only [aP]
        refine tk (v := ?_) 1 rfl ?_ ?_
        rotate_left
        focus
         intro w9
         go_simp
         try with_reducible rfl
        try simp only [aP]
        refine tk (v := ?_) 4 rfl ?_ ?_
        rotate_left
        focus
         intro w9
         go_simp
         try with_reducible rfl
        try simp only [aP]
        apply later9 (fun (w6:World) (_:Option Addr) (_:Nat) (_:Option Addr) (_:Nat) (_:Option Addr) (_:Nat) (_:Option Addr) (_:Nat) => Hid (IW N w w6 B sb most M Kn J (.slice (some ⟨g,0,none⟩) (m + 1) c)))
        intro hs2_3_5_6_11_12_14_15
        apply later9 (fun (w5:World) (_:Option Addr) (_:Nat) (_:Option Addr) (_:Nat) (p3:Option Addr) (c3:Nat) (p4:Option Addr) (c4:Nat) => Hid (IW N w w5 B sb most M Kn J (.slice (some ⟨g,0,none⟩) (m + 1) c) ∧ SlR .i64 w5 (.slice p3 (getR M ((k:Nat) + 1)).W.length c3) (getR M ((k:Nat) + 1)).W ∧ SlR .i64 w5 (.slice p4 (getR M ((k:Nat) + 1)).W.length c4) (getR M ((k:Nat) + 1)).W))
        intro hs2_3_5_6_11_12_14
        apply later7 (fun (w4:World) (_:Option Addr) (_:Nat) (_:Option Addr) (_:Nat) (p3:Option Addr) (c3:Nat) => Hid (IW N w w4 B sb most M Kn J (.slice (some ⟨g,0,none⟩) (m + 1) c) ∧ SlR .i64 w4 (.slice p3 (getR M ((k:Nat) + 1)).W.length c3) (getR M ((k:Nat) + 1)).W))
        intro hs2_3_5_6_11_12
        apply later5 (fun (w3:World) (_:Option Addr) (_:Nat) (_:Option Addr) (_:Nat) => Hid (IW N w w3 B sb most M Kn J (.slice (some ⟨g,0,none⟩) (m + 1) c)))
        intro hs2_3_5_6_12
        apply later7 (fun (w4:World) (_:Option Addr) (_:Nat) (_:Option Addr) (_:Nat) (p3:Option Addr) (c3:Nat) => Hid (IW N w w4 B sb most M Kn J (.slice (some ⟨g,0,none⟩) (m + 1) c) ∧ SlR .i64 w4 (.slice p3 (getR M ((k:Nat) + 1)).W.length c3) (getR M ((k:Nat) + 1)).W))
        intro hs2_3_5_6_11
        apply later5 (fun (w3:World) (_:Option Addr) (_:Nat) (_:Option Addr) (_:Nat) => Hid (IW N w w3 B sb most M Kn J (.slice (some ⟨g,0,none⟩) (m + 1) c)))
        intro hs2_3_5_6
        apply later5 (fun (w2:World) (p1:Option Addr) (c1:Nat) (p2:Option Addr) (c2:Nat) => Hid (IW N w w2 B sb most M Kn J (.slice (some ⟨g,0,none⟩) (m + 1) c) ∧ SlR .u64 w2 (.slice p1 (getR M ((k:Nat) + 1)).L.length c1) (getR M ((k:Nat) + 1)).L ∧ SlR .u64 w2 (.slice p2 (getR M ((k:Nat) + 1)).L.length c2) (getR M ((k:Nat) + 1)).L))
        intro hs2_3_5
        apply later3 (fun (w1:World) (p1:Option Addr) (c1:Nat) => Hid (IW N w w1 B sb most M Kn J (.slice (some ⟨g,0,none⟩) (m + 1) c) ∧ SlR .u64 w1 (.slice p1 (getR M ((k:Nat) + 1)).L.length c1) (getR M ((k:Nat) + 1)).L))
        intro hs2_3
        apply later0
        intro hs3
        apply later3 (fun (w1:World) (p1:Option Addr) (c1:Nat) => Hid (IW N w w1 B sb most M Kn J (.slice (some ⟨g,0,none⟩) (m + 1) c) ∧ SlR .u64 w1 (.slice p1 (getR M ((k:Nat) + 1)).L.length c1) (getR M ((k:Nat) + 1)).L))
        intro hs2
        ·obtain ⟨g0,g1,_,_⟩ := box2 HIr.out.x
         refine wpAny_ready (rs := [2,3]) (by kernel_rfl) (by simp) ?_
         refine anyN_cons 2 rfl (by rfl) (fun K hK => ?_) (anyN_cons 3 rfl (by rfl) (fun K hK => ?_) AllReady.nil)
         ·go_simp
          refine (versionsS_PS HIr.out.ps hJ ((k:Nat) + 1)).mono ?_
          rintro e w1 ⟨⟨p1,c1,rfl,hs1⟩,hbw⟩
          dsimp only
          have Q1:Hid (IW N w w1 B sb most M Kn J (.slice (some ⟨g,0,none⟩) (m + 1) c) ∧ SlR .u64 w1 (.slice p1 (getR M ((k:Nat) + 1)).L.length c1) (getR M ((k:Nat) + 1)).L) := ⟨HIr.out.on hbw,hs1⟩
          clear hbw
          refine hK.out _ _ ?_
          clear hK K
          try simp only [aP]
          exact hs2 w1 p1 c1 Q1
         ·go_simp
          refine hK.out _ _ ?_
          clear hK K
          try simp only [aP]
          exact hs3
        ·intro w1 p1 c1 Q1
         obtain ⟨g0,g1,_,_⟩ := box2 Q1.out.1.x
         refine wpAny_ready (rs := [3]) (by kernel_rfl) (by simp) ?_
         refine anyN_cons 3 rfl (by rfl) (fun K hK => ?_) AllReady.nil
         go_simp
         refine hK.out _ _ ?_
         clear hK K
         try simp only [aP]
         exact hs2_3 w1 p1 c1 Q1
        ·obtain ⟨g0,g1,_,_⟩ := box2 HIr.out.x
         refine wpAny_ready (rs := [2]) (by kernel_rfl) (by simp) ?_
         refine anyN_cons 2 rfl (by rfl) (fun K hK => ?_) AllReady.nil
         go_simp
         refine (versionsS_PS HIr.out.ps hJ ((k:Nat) + 1)).mono ?_
         rintro e w1 ⟨⟨p1,c1,rfl,hs1⟩,hbw⟩
         dsimp only
         have Q1:Hid (IW N w w1 B sb most M Kn J (.slice (some ⟨g,0,none⟩) (m + 1) c) ∧ SlR .u64 w1 (.slice p1 (getR M ((k:Nat) + 1)).L.length c1) (getR M ((k:Nat) + 1)).L) := ⟨HIr.out.on hbw,hs1⟩
         clear hbw
         refine hK.out _ _ ?_
         clear hK K
         try simp only [aP]
         exact hs2_3 w1 p1 c1 Q1
        ·intro w1 p1 c1 Q1
         obtain ⟨g0,g1,_,_⟩ := box2 Q1.out.1.x
         refine wpAny_ready (rs := [5]) (by kernel_rfl) (by simp) ?_
         refine anyN_cons 5 rfl (by rfl) (fun K hK => ?_) AllReady.nil
         go_simp
         refine (versionsD_PS Q1.out.1.ps ((k:Nat) + 1)).mono ?_
         rintro e w2 ⟨⟨p2,c2,rfl,hs2⟩,hbw⟩
         dsimp only
         have Q2:Hid (IW N w w2 B sb most M Kn J (.slice (some ⟨g,0,none⟩) (m + 1) c) ∧ SlR .u64 w2 (.slice p1 (getR M ((k:Nat) + 1)).L.length c1) (getR M ((k:Nat) + 1)).L ∧ SlR .u64 w2 (.slice p2 (getR M ((k:Nat) + 1)).L.length c2) (getR M ((k:Nat) + 1)).L) := ⟨Q1.out.1.on hbw,Q1.out.2.imm (Imm.of_below hbw),hs2⟩
         clear hbw
         refine hK.out _ _ ?_
         clear hK K
         try simp only [aP]
         exact hs2_3_5 w2 p1 c1 p2 c2 Q2
        ·intro w2 p1 c1 p2 c2 Q2
         obtain ⟨g0,g1,_,_⟩ := box2 Q2.out.1.x
         refine wpAny_ready (rs := [6]) (by kernel_rfl) (by simp) ?_
         refine anyN_cons 6 rfl (by rfl) (fun K hK => ?_) AllReady.nil
         go_simp
         refine (sameChain_eq _ _ _ _ _ _ Q2.out.2.1.rd Q2.out.2.2.rd (by have h8 := (HOk.out ((k:Nat) + 1)).nL; omega) (HOk.out ((k:Nat) + 1)).sL).mono ?_
         rintro e w3 ⟨rfl,hbw⟩
         dsimp only
         have Q3:Hid (IW N w w3 B sb most M Kn J (.slice (some ⟨g,0,none⟩) (m + 1) c)) := Q2.out.1.on hbw
         clear hbw
         refine hK.out _ _ ?_
         clear hK K
         try simp only [aP]
         refine tk (v := ?_) 7 rfl ?_ ?_
         rotate_left
         focus
          intro w9
          go_simp
          try with_reducible rfl
         try simp only [aP]
         refine tk (v := ?_) 8 rfl ?_ ?_
         rotate_left
         focus
          intro w9
          go_simp
          try with_reducible rfl
         try simp only [aP]
         refine tk (v := ?_) 9 rfl ?_ ?_
         rotate_left
         focus
          intro w9
          go_simp
          try with_reducible rfl
         try simp only [aP]
         refine tk (v := ?_) 10 rfl ?_ ?_
         rotate_left
         focus
          intro w9
          go_simp
          try with_reducible rfl
         try simp only [aP]
         refine tk (v := ?_) 13 rfl ?_ ?_
         rotate_left
         focus
          intro w9
          go_simp
          try with_reducible rfl
         try simp only [aP]
         exact hs2_3_5_6 w3 p1 c1 p2 c2 Q3
        ·intro w3 p1 c1 p2 c2 Q3
         obtain ⟨g0,g1,_,_⟩ := box2 Q3.out.x
         refine wpAny_ready (rs := [11,12]) (by kernel_rfl) (by simp) ?_
         refine anyN_cons 11 rfl (by rfl) (fun K hK => ?_) (anyN_cons 12 rfl (by rfl) (fun K hK => ?_) AllReady.nil)
         ·go_simp
          refine (intentS_PS Q3.out.ps hJ ((k:Nat) + 1)).mono ?_
          rintro e w4 ⟨⟨p3,c3,rfl,hs3⟩,hbw⟩
          dsimp only
          have Q4:Hid (IW N w w4 B sb most M Kn J (.slice (some ⟨g,0,none⟩) (m + 1) c) ∧ SlR .i64 w4 (.slice p3 (getR M ((k:Nat) + 1)).W.length c3) (getR M ((k:Nat) + 1)).W) := ⟨Q3.out.on hbw,hs3⟩
          clear hbw
          refine hK.out _ _ ?_
          clear hK K
          try simp only [aP]
          exact hs2_3_5_6_11 w4 p1 c1 p2 c2 p3 c3 Q4
         ·go_simp
          refine hK.out _ _ ?_
          clear hK K
          try simp only [aP]
          exact hs2_3_5_6_12 w3 p1 c1 p2 c2 Q3
        ·intro w4 p1 c1 p2 c2 p3 c3 Q4
         obtain ⟨g0,g1,_,_⟩ := box2 Q4.out.1.x
         refine wpAny_ready (rs := [12]) (by kernel_rfl) (by simp) ?_
         refine anyN_cons 12 rfl (by rfl) (fun K hK => ?_) AllReady.nil
         go_simp
         refine hK.out _ _ ?_
         clear hK K
         try simp only [aP]
         exact hs2_3_5_6_11_12 w4 p1 c1 p2 c2 p3 c3 Q4
        ·intro w3 p1 c1 p2 c2 Q3
         obtain ⟨g0,g1,_,_⟩ := box2 Q3.out.x
         refine wpAny_ready (rs := [11]) (by kernel_rfl) (by simp) ?_
         refine anyN_cons 11 rfl (by rfl) (fun K hK => ?_) AllReady.nil
         go_simp
         refine (intentS_PS Q3.out.ps hJ ((k:Nat) + 1)).mono ?_
         rintro e w4 ⟨⟨p3,c3,rfl,hs3⟩,hbw⟩
         dsimp only
         have Q4:Hid (IW N w w4 B sb most M Kn J (.slice (some ⟨g,0,none⟩) (m + 1) c) ∧ SlR .i64 w4 (.slice p3 (getR M ((k:Nat) + 1)).W.length c3) (getR M ((k:Nat) + 1)).W) := ⟨Q3.out.on hbw,hs3⟩
         clear hbw
         refine hK.out _ _ ?_
         clear hK K
         try simp only [aP]
         exact hs2_3_5_6_11_12 w4 p1 c1 p2 c2 p3 c3 Q4
        ·intro w4 p1 c1 p2 c2 p3 c3 Q4
         obtain ⟨g0,g1,_,_⟩ := box2 Q4.out.1.x
         refine wpAny_ready (rs := [14]) (by kernel_rfl) (by simp) ?_
         refine anyN_cons 14 rfl (by rfl) (fun K hK => ?_) AllReady.nil
         go_simp
         refine (intentD_PS Q4.out.1.ps ((k:Nat) + 1)).mono ?_
         rintro e w5 ⟨⟨p4,c4,rfl,hs4⟩,hbw⟩
         dsimp only
         have Q5:Hid (IW N w w5 B sb most M Kn J (.slice (some ⟨g,0,none⟩) (m + 1) c) ∧ SlR .i64 w5 (.slice p3 (getR M ((k:Nat) + 1)).W.length c3) (getR M ((k:Nat) + 1)).W ∧ SlR .i64 w5 (.slice p4 (getR M ((k:Nat) + 1)).W.length c4) (getR M ((k:Nat) + 1)).W) := ⟨Q4.out.1.on hbw,Q4.out.2.imm (Imm.of_below hbw),hs4⟩
         clear hbw
         refine hK.out _ _ ?_
         clear hK K
         try simp only [aP]
         exact hs2_3_5_6_11_12_14 w5 p1 c1 p2 c2 p3 c3 p4 c4 Q5
        ·intro w5 p1 c1 p2 c2 p3 c3 p4 c4 Q5
         obtain ⟨g0,g1,_,_⟩ := box2 Q5.out.1.x
         refine wpAny_ready (rs := [15]) (by kernel_rfl) (by simp) ?_
         refine anyN_cons 15 rfl (by rfl) (fun K hK => ?_) AllReady.nil
         go_simp
         refine (sameIntent_eq _ _ _ _ _ _ _ Q5.out.2.1.rd Q5.out.2.2.rd (by have h8 := (HOk.out ((k:Nat) + 1)).nW; omega) (HOk.out ((k:Nat) + 1)).sW).mono ?_
         rintro e w6 ⟨rfl,hbw⟩
         dsimp only
         have Q6:Hid (IW N w w6 B sb most M Kn J (.slice (some ⟨g,0,none⟩) (m + 1) c)) := Q5.out.1.on hbw
         clear hbw
         refine hK.out _ _ ?_
         clear hK K
         try simp only [aP]
         refine tk (v := ?_) 16 rfl ?_ ?_
         rotate_left
         focus
          intro w9
          go_simp
          try with_reducible rfl
         try simp only [aP]
         refine tk (v := ?_) 17 rfl ?_ ?_
         rotate_left
         focus
          intro w9
          go_simp
          try with_reducible rfl
         try simp only [aP]
         exact hs2_3_5_6_11_12_14_15 w6 p1 c1 p2 c2 p3 c3 p4 c4 Q6
        ·intro w6 p1 c1 p2 c2 p3 c3 p4 c4 Q6
         refine wpAny_done (by kernel_rfl) ?_ _
         go_wp2_with fail
         go_meet
         exact ⟨rfl,Q6⟩
       case rest =>
        obtain ⟨rfl,HIc⟩ := hcut
        go_wp2_with fail
        go_roundw
        case rel => exact ⟨m + 1 + 1 + 1,by omega,by first | rfl | go_num,HIc⟩
        case measure => (simp [intOf]; try omega)
     ·obtain ⟨m,hm⟩:∃ m,j = m + 1 := ⟨j - 1,by omega⟩
      subst hm
      have hmn:m < n := by omega
      have hi:m < (docL M).length := by rw [HN.out]; omega
      obtain ⟨⟨k,rL,tx,rW⟩,hq⟩:∃ q,(docL M)[m] = q := ⟨_,rfl⟩
      have hk:k < 65536 := by have h9 := HSb.out _ (List.getElem_mem hi); rw [hq] at h9; exact h9
      obtain ⟨g,pl,cl,pw,cw,e,⟨a0,a1,a2,a3⟩,_,_⟩ := HI.out.ps.doc.row (Below.refl _ _) hi hq
      subst e
      have hne:(((m:Nat):Int) == ((n:Nat):Int)) = false := by simp; omega
      clear hq hi
      have hi6:u5 = .int .i64 (m:Int) := by rw [hi5]; congr 1; omega
      clear hi5
      subst hi6
      go_upto_region 11 with fail
      go_cut [69] from 13 to 69 (fun b wx => b = .bool false ∧ Hid (IW N w wx B sb most M Kn J (.slice (some ⟨g,0,none⟩) n c)))
      case first =>
       refine wp_region_any (by kernel_rfl) ?_
       change wpAny _ _ _ _ _ _ _ (World.drew _)
       refine tk (v := ?_) 0 rfl ?_ ?_
       rotate_left
       focus
        intro w9
        go_simp
        try with_reducible rfl
       try simp only [aP]
       refine tk (v := ?_) 1 rfl ?_ ?_
       rotate_left
       focus
        intro w9
        go_simp
        try with_reducible rfl
       try simp only [aP]
       refine tk (v := ?_) 4 rfl ?_ ?_
       rotate_left
       focus
        intro w9
        go_simp
        try with_reducible rfl
       try simp only [aP]
       apply later9 (fun (w6:World) (_:Option Addr) (_:Nat) (_:Option Addr) (_:Nat) (_:Option Addr) (_:Nat) (_:Option Addr) (_:Nat) => Hid (IW N w w6 B sb most M Kn J (.slice (some ⟨g,0,none⟩) n c)))
       intro hs2_3_5_6_11_12_14_15
       apply later9 (fun (w5:World) (_:Option Addr) (_:Nat) (_:Option Addr) (_:Nat) (p3:Option Addr) (c3:Nat) (p4:Option Addr) (c4:Nat) => Hid (IW N w w5 B sb most M Kn J (.slice (some ⟨g,0,none⟩) n c) ∧ SlR .i64 w5 (.slice p3 (getR M ((k:Nat):Int)).W.length c3) (getR M ((k:Nat):Int)).W ∧ SlR .i64 w5 (.slice p4 (getR M ((k:Nat):Int)).W.length c4) (getR M ((k:Nat):Int)).W))
       intro hs2_3_5_6_11_12_14
       apply later7 (fun (w4:World) (_:Option Addr) (_:Nat) (_:Option Addr) (_:Nat) (p3:Option Addr) (c3:Nat) => Hid (IW N w w4 B sb most M Kn J (.slice (some ⟨g,0,none⟩) n c) ∧ SlR .i64 w4 (.slice p3 (getR M ((k:Nat):Int)).W.length c3) (getR M ((k:Nat):Int)).W))
       intro hs2_3_5_6_11_12
       apply later5 (fun (w3:World) (_:Option Addr) (_:Nat) (_:Option Addr) (_:Nat) => Hid (IW N w w3 B sb most M Kn J (.slice (some ⟨g,0,none⟩) n c)))
       intro hs2_3_5_6_12
       apply later7 (fun (w4:World) (_:Option Addr) (_:Nat) (_:Option Addr) (_:Nat) (p3:Option Addr) (c3:Nat) => Hid (IW N w w4 B sb most M Kn J (.slice (some ⟨g,0,none⟩) n c) ∧ SlR .i64 w4 (.slice p3 (getR M ((k:Nat):Int)).W.length c3) (getR M ((k:Nat):Int)).W))
       intro hs2_3_5_6_11
       apply later5 (fun (w3:World) (_:Option Addr) (_:Nat) (_:Option Addr) (_:Nat) => Hid (IW N w w3 B sb most M Kn J (.slice (some ⟨g,0,none⟩) n c)))
       intro hs2_3_5_6
       apply later5 (fun (w2:World) (p1:Option Addr) (c1:Nat) (p2:Option Addr) (c2:Nat) => Hid (IW N w w2 B sb most M Kn J (.slice (some ⟨g,0,none⟩) n c) ∧ SlR .u64 w2 (.slice p1 (getR M ((k:Nat):Int)).L.length c1) (getR M ((k:Nat):Int)).L ∧ SlR .u64 w2 (.slice p2 (getR M ((k:Nat):Int)).L.length c2) (getR M ((k:Nat):Int)).L))
       intro hs2_3_5
       apply later3 (fun (w1:World) (p1:Option Addr) (c1:Nat) => Hid (IW N w w1 B sb most M Kn J (.slice (some ⟨g,0,none⟩) n c) ∧ SlR .u64 w1 (.slice p1 (getR M ((k:Nat):Int)).L.length c1) (getR M ((k:Nat):Int)).L))
       intro hs2_3
       apply later0
       intro hs3
       apply later3 (fun (w1:World) (p1:Option Addr) (c1:Nat) => Hid (IW N w w1 B sb most M Kn J (.slice (some ⟨g,0,none⟩) n c) ∧ SlR .u64 w1 (.slice p1 (getR M ((k:Nat):Int)).L.length c1) (getR M ((k:Nat):Int)).L))
       intro hs2
       ·obtain ⟨g0,g1,_,_⟩ := box2 HIr.out.x
        refine wpAny_ready (rs := [2,3]) (by kernel_rfl) (by simp) ?_
        refine anyN_cons 2 rfl (by rfl) (fun K hK => ?_) (anyN_cons 3 rfl (by rfl) (fun K hK => ?_) AllReady.nil)
        ·go_simp
         refine (versionsS_PS HIr.out.ps hJ ((k:Nat):Int)).mono ?_
         rintro e w1 ⟨⟨p1,c1,rfl,hs1⟩,hbw⟩
         dsimp only
         have Q1:Hid (IW N w w1 B sb most M Kn J (.slice (some ⟨g,0,none⟩) n c) ∧ SlR .u64 w1 (.slice p1 (getR M ((k:Nat):Int)).L.length c1) (getR M ((k:Nat):Int)).L) := ⟨HIr.out.on hbw,hs1⟩
         clear hbw
         refine hK.out _ _ ?_
         clear hK K
         try simp only [aP]
         exact hs2 w1 p1 c1 Q1
        ·go_simp
         refine hK.out _ _ ?_
         clear hK K
         try simp only [aP]
         exact hs3
       ·intro w1 p1 c1 Q1
        obtain ⟨g0,g1,_,_⟩ := box2 Q1.out.1.x
        refine wpAny_ready (rs := [3]) (by kernel_rfl) (by simp) ?_
        refine anyN_cons 3 rfl (by rfl) (fun K hK => ?_) AllReady.nil
        go_simp
        refine hK.out _ _ ?_
        clear hK K
        try simp only [aP]
        exact hs2_3 w1 p1 c1 Q1
       ·obtain ⟨g0,g1,_,_⟩ := box2 HIr.out.x
        refine wpAny_ready (rs := [2]) (by kernel_rfl) (by simp) ?_
        refine anyN_cons 2 rfl (by rfl) (fun K hK => ?_) AllReady.nil
        go_simp
        refine (versionsS_PS HIr.out.ps hJ ((k:Nat):Int)).mono ?_
        rintro e w1 ⟨⟨p1,c1,rfl,hs1⟩,hbw⟩
        dsimp only
        have Q1:Hid (IW N w w1 B sb most M Kn J (.slice (some ⟨g,0,none⟩) n c) ∧ SlR .u64 w1 (.slice p1 (getR M ((k:Nat):Int)).L.length c1) (getR M ((k:Nat):Int)).L) := ⟨HIr.out.on hbw,hs1⟩
        clear hbw
        refine hK.out _ _ ?_
        clear hK K
        try simp only [aP]
        exact hs2_3 w1 p1 c1 Q1
       ·intro w1 p1 c1 Q1
        obtain ⟨g0,g1,_,_⟩ := box2 Q1.out.1.x
        refine wpAny_ready (rs := [5]) (by kernel_rfl) (by simp) ?_
        refine anyN_cons 5 rfl (by rfl) (fun K hK => ?_) AllReady.nil
        go_simp
        refine (versionsD_PS Q1.out.1.ps ((k:Nat):Int)).mono ?_
        rintro e w2 ⟨⟨p2,c2,rfl,hs2⟩,hbw⟩
        dsimp only
        have Q2:Hid (IW N w w2 B sb most M Kn J (.slice (some ⟨g,0,none⟩) n c) ∧ SlR .u64 w2 (.slice p1 (getR M ((k:Nat):Int)).L.length c1) (getR M ((k:Nat):Int)).L ∧ SlR .u64 w2 (.slice p2 (getR M ((k:Nat):Int)).L.length c2) (getR M ((k:Nat):Int)).L) := ⟨Q1.out.1.on hbw,Q1.out.2.imm (Imm.of_below hbw),hs2⟩
        clear hbw
        refine hK.out _ _ ?_
        clear hK K
        try simp only [aP]
        exact hs2_3_5 w2 p1 c1 p2 c2 Q2
       ·intro w2 p1 c1 p2 c2 Q2
        obtain ⟨g0,g1,_,_⟩ := box2 Q2.out.1.x
        refine wpAny_ready (rs := [6]) (by kernel_rfl) (by simp) ?_
        refine anyN_cons 6 rfl (by rfl) (fun K hK => ?_) AllReady.nil
        go_simp
        refine (sameChain_eq _ _ _ _ _ _ Q2.out.2.1.rd Q2.out.2.2.rd (by have h8 := (HOk.out ((k:Nat):Int)).nL; omega) (HOk.out ((k:Nat):Int)).sL).mono ?_
        rintro e w3 ⟨rfl,hbw⟩
        dsimp only
        have Q3:Hid (IW N w w3 B sb most M Kn J (.slice (some ⟨g,0,none⟩) n c)) := Q2.out.1.on hbw
        clear hbw
        refine hK.out _ _ ?_
        clear hK K
        try simp only [aP]
        refine tk (v := ?_) 7 rfl ?_ ?_
        rotate_left
        focus
         intro w9
         go_simp
         try with_reducible rfl
        try simp only [aP]
        refine tk (v := ?_) 8 rfl ?_ ?_
        rotate_left
        focus
         intro w9
         go_simp
         try with_reducible rfl
        try simp only [aP]
        refine tk (v := ?_) 9 rfl ?_ ?_
        rotate_left
        focus
         intro w9
         go_simp
         try with_reducible rfl
        try simp only [aP]
        refine tk (v := ?_) 10 rfl ?_ ?_
        rotate_left
        focus
         intro w9
         go_simp
         try with_reducible rfl
        try simp only [aP]
        refine tk (v := ?_) 13 rfl ?_ ?_
        rotate_left
        focus
         intro w9
         go_simp
         try with_reducible rfl
        try simp only [aP]
        exact hs2_3_5_6 w3 p1 c1 p2 c2 Q3
       ·intro w3 p1 c1 p2 c2 Q3
        obtain ⟨g0,g1,_,_⟩ := box2 Q3.out.x
        refine wpAny_ready (rs := [11,12]) (by kernel_rfl) (by simp) ?_
        refine anyN_cons 11 rfl (by rfl) (fun K hK => ?_) (anyN_cons 12 rfl (by rfl) (fun K hK => ?_) AllReady.nil)
        ·go_simp
         refine (intentS_PS Q3.out.ps hJ ((k:Nat):Int)).mono ?_
         rintro e w4 ⟨⟨p3,c3,rfl,hs3⟩,hbw⟩
         dsimp only
         have Q4:Hid (IW N w w4 B sb most M Kn J (.slice (some ⟨g,0,none⟩) n c) ∧ SlR .i64 w4 (.slice p3 (getR M ((k:Nat):Int)).W.length c3) (getR M ((k:Nat):Int)).W) := ⟨Q3.out.on hbw,hs3⟩
         clear hbw
         refine hK.out _ _ ?_
         clear hK K
         try simp only [aP]
         exact hs2_3_5_6_11 w4 p1 c1 p2 c2 p3 c3 Q4
        ·go_simp
         refine hK.out _ _ ?_
         clear hK K
         try simp only [aP]
         exact hs2_3_5_6_12 w3 p1 c1 p2 c2 Q3
       ·intro w4 p1 c1 p2 c2 p3 c3 Q4
        obtain ⟨g0,g1,_,_⟩ := box2 Q4.out.1.x
        refine wpAny_ready (rs := [12]) (by kernel_rfl) (by simp) ?_
        refine anyN_cons 12 rfl (by rfl) (fun K hK => ?_) AllReady.nil
        go_simp
        refine hK.out _ _ ?_
        clear hK K
        try simp only [aP]
        exact hs2_3_5_6_11_12 w4 p1 c1 p2 c2 p3 c3 Q4
       ·intro w3 p1 c1 p2 c2 Q3
        obtain ⟨g0,g1,_,_⟩ := box2 Q3.out.x
        refine wpAny_ready (rs := [11]) (by kernel_rfl) (by simp) ?_
        refine anyN_cons 11 rfl (by rfl) (fun K hK => ?_) AllReady.nil
        go_simp
        refine (intentS_PS Q3.out.ps hJ ((k:Nat):Int)).mono ?_
        rintro e w4 ⟨⟨p3,c3,rfl,hs3⟩,hbw⟩
        dsimp only
        have Q4:Hid (IW N w w4 B sb most M Kn J (.slice (some ⟨g,0,none⟩) n c) ∧ SlR .i64 w4 (.slice p3 (getR M ((k:Nat):Int)).W.length c3) (getR M ((k:Nat):Int)).W) := ⟨Q3.out.on hbw,hs3⟩
        clear hbw
        refine hK.out _ _ ?_
        clear hK K
        try simp only [aP]
        exact hs2_3_5_6_11_12 w4 p1 c1 p2 c2 p3 c3 Q4
       ·intro w4 p1 c1 p2 c2 p3 c3 Q4
        obtain ⟨g0,g1,_,_⟩ := box2 Q4.out.1.x
        refine wpAny_ready (rs := [14]) (by kernel_rfl) (by simp) ?_
        refine anyN_cons 14 rfl (by rfl) (fun K hK => ?_) AllReady.nil
        go_simp
        refine (intentD_PS Q4.out.1.ps ((k:Nat):Int)).mono ?_
        rintro e w5 ⟨⟨p4,c4,rfl,hs4⟩,hbw⟩
        dsimp only
        have Q5:Hid (IW N w w5 B sb most M Kn J (.slice (some ⟨g,0,none⟩) n c) ∧ SlR .i64 w5 (.slice p3 (getR M ((k:Nat):Int)).W.length c3) (getR M ((k:Nat):Int)).W ∧ SlR .i64 w5 (.slice p4 (getR M ((k:Nat):Int)).W.length c4) (getR M ((k:Nat):Int)).W) := ⟨Q4.out.1.on hbw,Q4.out.2.imm (Imm.of_below hbw),hs4⟩
        clear hbw
        refine hK.out _ _ ?_
        clear hK K
        try simp only [aP]
        exact hs2_3_5_6_11_12_14 w5 p1 c1 p2 c2 p3 c3 p4 c4 Q5
       ·intro w5 p1 c1 p2 c2 p3 c3 p4 c4 Q5
        obtain ⟨g0,g1,_,_⟩ := box2 Q5.out.1.x
        refine wpAny_ready (rs := [15]) (by kernel_rfl) (by simp) ?_
        refine anyN_cons 15 rfl (by rfl) (fun K hK => ?_) AllReady.nil
        go_simp
        refine (sameIntent_eq _ _ _ _ _ _ _ Q5.out.2.1.rd Q5.out.2.2.rd (by have h8 := (HOk.out ((k:Nat):Int)).nW; omega) (HOk.out ((k:Nat):Int)).sW).mono ?_
        rintro e w6 ⟨rfl,hbw⟩
        dsimp only
        have Q6:Hid (IW N w w6 B sb most M Kn J (.slice (some ⟨g,0,none⟩) n c)) := Q5.out.1.on hbw
        clear hbw
        refine hK.out _ _ ?_
        clear hK K
        try simp only [aP]
        refine tk (v := ?_) 16 rfl ?_ ?_
        rotate_left
        focus
         intro w9
         go_simp
         try with_reducible rfl
        try simp only [aP]
        refine tk (v := ?_) 17 rfl ?_ ?_
        rotate_left
        focus
         intro w9
         go_simp
         try with_reducible rfl
        try simp only [aP]
        exact hs2_3_5_6_11_12_14_15 w6 p1 c1 p2 c2 p3 c3 p4 c4 Q6
       ·intro w6 p1 c1 p2 c2 p3 c3 p4 c4 Q6
        refine wpAny_done (by kernel_rfl) ?_ _
        go_wp2_with fail
        go_meet
        exact ⟨rfl,Q6⟩
      case rest =>
       obtain ⟨rfl,HIc⟩ := hcut
       go_wp2_with fail
       go_roundw
       case rel => exact ⟨m + 1 + 1,by omega,by first | rfl | go_num,HIc⟩
       case measure => (simp [intOf]; try omega)

end Go.Proofs.YtcibcfghkidncaaGreatDoor

namespace Go.Proofs.YtcibcfghkidncaaGreatDoor
open Go.RowKit Go.Lib
set_option maxRecDepth 100000

structure PW (N:Nat → Prop) (w wq:World) (B sb most:Nat) (M:List Rs) (Kn J:Nat) (v:Value):Prop where
 sto:∃ F,Sto wq B sb most M Kn J F ∧ (∀ k,N k → ¬ F k ∧ k < w.heap.size) ∧ ∀ k,F k → k < w.heap.size
 doc:DocS wq B v (docL M)
 tab:Tab wq
 glo : 1 < B
 hB:B ≤ w.heap.size
 sz:w.heap.size ≤ wq.heap.size
section
variable {N:Nat → Prop} {w wq w':World} {B sb most:Nat} {M M':List Rs} {Kn J Kn' J':Nat} {v v':Value} {A:Array Value} {bo:Nat}
theorem PS.pw (h:PS N w B sb most M Kn J v):PW N w w B sb most M Kn J v := by
 obtain ⟨F,hs,hn⟩ := h.sto
 exact ⟨⟨F,hs,hn,fun k hk => (hs.mut hk).2.2⟩,h.doc,h.tab,h.glo,h.hB,Nat.le_refl _⟩
theorem PW.on (h:PW N w wq B sb most M Kn J v) (hb:Below wq.heap.size wq w'):PW N w w' B sb most M Kn J v := by
 obtain ⟨F,hs,hn,hl⟩ := h.sto
 exact ⟨⟨F,hs.on hb,hn,hl⟩,h.doc.on hb,h.tab.keep hb (Nat.lt_of_lt_of_le h.glo (Nat.le_trans h.hB h.sz)),h.glo,h.hB,Nat.le_trans h.sz hb.size⟩
theorem PW.ps (h:PW N w wq B sb most M Kn J v):PS N wq B sb most M Kn J v := by
 obtain ⟨F,hs,hn,hl⟩ := h.sto
 exact ⟨⟨F,hs,fun k hk => ⟨(hn k hk).1,Nat.lt_of_lt_of_le (hn k hk).2 h.sz⟩⟩,h.doc,h.tab,h.glo,Nat.le_trans h.hB h.sz⟩
structure DB (N:Nat → Prop) (w wq:World) (B sb most:Nat) (M:List Rs) (Kn J:Nat) (v:Value) (A:Array Value):Prop where
 pw:PW N w wq B sb most M Kn J v
 bel:Below w.heap.size w wq
 m:Box wq w.heap.size #[.int .i64 (most:Nat),v] 29
 a:Box wq (w.heap.size + 1) A 41
 r:Box wq (w.heap.size + 1 + 1) #[.int .i64 0,.slice none 0 0] 29
 hB:w.heap.size + 3 ≤ wq.heap.size
theorem DB.on (h:DB N w wq B sb most M Kn J v A) (hb:Below wq.heap.size wq w'):DB N w w' B sb most M Kn J v A := ⟨h.pw.on hb,h.bel.trans (hb.mono h.bel.size),h.m.on hb,h.a.on hb,h.r.on hb,Nat.le_trans h.hB hb.size⟩
theorem DB.start (h:PS N w B sb most M Kn J v) (A:Array Value):DB N w (((w.alloc (.cells #[.int .i64 (most:Nat),v] 29)).alloc (.cells A 41)).alloc (.cells #[.int .i64 0,.slice none 0 0] 29)) B sb most M Kn J v A := by
 obtain ⟨a1,a2,a3,a4⟩ := two_new w #[.int .i64 (most:Nat),v] A 29 41
 obtain ⟨b1,b2,b3⟩ := one_new ((w.alloc (.cells #[.int .i64 (most:Nat),v] 29)).alloc (.cells A 41)) #[.int .i64 0,.slice none 0 0] 29
 rw [a4] at b1
 have hb := a3.trans (b2.mono a3.size)
 exact ⟨h.pw.on hb,hb,a1.on b2,a2.on b2,b1,by rw [b3,a4]; exact Nat.le_refl _⟩
theorem DB.cells {a0 a1 a2 a3 a4 a5 a6 a7:Value} (h:DB N w wq B sb most M Kn J v #[a0,a1,a2,a3,a4,a5,a6,a7]):(wq.cell? ⟨w.heap.size,0,none⟩ = some (.int .i64 (most:Nat)) ∧ wq.cell? ⟨w.heap.size,1,none⟩ = some v) ∧ wq.cell? ⟨w.heap.size + 1,0,none⟩ = some a0 ∧ wq.cell? ⟨w.heap.size + 1,1,none⟩ = some a1 ∧ wq.cell? ⟨w.heap.size + 1,2,none⟩ = some a2 ∧ wq.cell? ⟨w.heap.size + 1,3,none⟩ = some a3 ∧ wq.cell? ⟨w.heap.size + 1,4,none⟩ = some a4 ∧ wq.cell? ⟨w.heap.size + 1,5,none⟩ = some a5 ∧ wq.cell? ⟨w.heap.size + 1,6,none⟩ = some a6 ∧ wq.cell? ⟨w.heap.size + 1,7,none⟩ = some a7 ∧ wq.frozen? ⟨w.heap.size + 1 + 1,0,none⟩ = false ∧ wq.frozen? ⟨w.heap.size + 1 + 1,1,none⟩ = false ∧ wq.cell? ⟨w.heap.size + 1 + 1,0,none⟩ = some (.int .i64 0) ∧ wq.cell? ⟨w.heap.size + 1 + 1,1,none⟩ = some (.slice none 0 0) :=
 ⟨⟨box_cell h.m rfl,box_cell h.m rfl⟩,box_cell h.a rfl,box_cell h.a rfl,box_cell h.a rfl,box_cell h.a rfl,box_cell h.a rfl,box_cell h.a rfl,box_cell h.a rfl,box_cell h.a rfl,box_frz h.r _,box_frz h.r _,box_cell h.r rfl,box_cell h.r rfl⟩
structure DC (N:Nat → Prop) (w wq:World) (B sb most:Nat) (M M':List Rs) (Kn J:Nat) (v v':Value) (A:Array Value) (bo:Nat):Prop where
 db:DB N w wq B sb most M Kn J v A
 d':DocS wq B v' (docL M')
 o:Box wq bo #[.int .i64 (most:Nat),v'] 29
 hbo:w.heap.size + 3 ≤ bo
theorem DC.on (h:DC N w wq B sb most M M' Kn J v v' A bo) (hb:Below wq.heap.size wq w'):DC N w w' B sb most M M' Kn J v v' A bo := ⟨h.db.on hb,h.d'.on hb,h.o.on hb,h.hbo⟩
theorem DB.told (h:DB N w wq B sb most M Kn J v A) (hb:Below wq.heap.size wq w') (hd:DocS w' B v' (docL M')):DC N w (w'.alloc (.cells #[.int .i64 (most:Nat),v'] 29)) B sb most M M' Kn J v v' A w'.heap.size := by
 obtain ⟨a1,a2,a3⟩ := one_new w' #[.int .i64 (most:Nat),v'] 29
 have h1 := h.on hb
 exact ⟨h1.on a2,hd.on a2,a1,h1.hB⟩
structure DE (N:Nat → Prop) (w wq:World) (B sb most:Nat) (M':List Rs) (Kn J:Nat) (v':Value) (bo:Nat):Prop where
 ps:PS (fun k => N k ∨ k = w.heap.size + 1 + 1) wq B sb most M' Kn J v'
 fr:Frm w wq (frN B N)
 o:Box wq bo #[.int .i64 (most:Nat),v'] 29
 r:Box wq (w.heap.size + 1 + 1) #[.int .i64 0,.slice none 0 0] 29
 hb:B ≤ w.heap.size
theorem DE.on (h:DE N w wq B sb most M' Kn J v' bo) (hb:Below wq.heap.size wq w'):DE N w w' B sb most M' Kn J v' bo := ⟨h.ps.on hb,h.fr.trans (Frm.of_below hb (F := none1)) (fun _ h => h.elim),h.o.on hb,h.r.on hb,h.hb⟩
theorem DE.cells (h:DE N w wq B sb most M' Kn J v' bo):wq.cell? ⟨bo,0,none⟩ = some (.int .i64 (most:Nat)) ∧ wq.cell? ⟨bo,1,none⟩ = some v' ∧ wq.frozen? ⟨w.heap.size + 1 + 1,0,none⟩ = false ∧ wq.frozen? ⟨w.heap.size + 1 + 1,1,none⟩ = false ∧ wq.cell? ⟨w.heap.size + 1 + 1,0,none⟩ = some (.int .i64 0) ∧ wq.cell? ⟨w.heap.size + 1 + 1,1,none⟩ = some (.slice none 0 0) := ⟨box_cell h.o rfl,box_cell h.o rfl,box_frz h.r _,box_frz h.r _,box_cell h.r rfl,box_cell h.r rfl⟩
theorem DC.step {F F':Nat → Prop} (h:DC N w wq B sb most M M' Kn J v v' A bo) (hs:Sto wq B sb most M Kn J F) (hn:∀ k,N k → ¬ F k ∧ k < w.heap.size) (hl:∀ k,F k → k < w.heap.size) (hs':Sto w' B sb most M' Kn' J' F') (hF':∀ k,F' k → F k ∨ wq.heap.size ≤ k) (hf:Frm wq w' F):DE N w w' B sb most M' Kn' J' v' bo := by
 have h1 := h.hbo
 have h2 := h.db.hB
 have h3 := h.db.bel.size
 obtain ⟨p1,p2⟩ := PS.step (N := fun k => N k ∨ k = w.heap.size + 1 + 1) (v := v) ⟨⟨F,hs,fun k hk => by
  rcases hk with hk | rfl
  ·exact ⟨(hn k hk).1,Nat.lt_of_lt_of_le (hn k hk).2 h3⟩
  ·exact ⟨fun hk => by have := hl _ hk; omega,by omega⟩⟩,h.db.pw.doc,h.db.pw.tab,h.db.pw.glo,Nat.le_trans h.db.pw.hB h3⟩ hs (fun k hk => by
  rcases hk with hk | rfl
  ·exact ⟨(hn k hk).1,Nat.lt_of_lt_of_le (hn k hk).2 h3⟩
  ·exact ⟨fun hk => by have := hl _ hk; omega,by omega⟩) h.d' hs' hF' hf
 refine ⟨p1,(Frm.of_below h.db.bel (F := frN B N)).trans hf (fun k hk => .inl ⟨(hs.mut hk).2.1,fun hN => (hn k hN).1 hk⟩),h.o.frm hf (fun e => by have := hl _ e; omega),h.db.r.frm hf (fun e => by have := hl _ e; omega),h.db.pw.hB⟩
theorem DE.fin {p:Option Addr} {n c:Nat} (h:DE N w wq B sb most M' Kn J (.slice p n c) bo):((wq.setCell ⟨w.heap.size + 1 + 1,0,none⟩ (.int .i64 (most:Nat))).setCell ⟨w.heap.size + 1 + 1,1,none⟩ (.slice p n c)).cell? ⟨w.heap.size + 1 + 1,0,none⟩ = some (.int .i64 (most:Nat)) ∧ ((wq.setCell ⟨w.heap.size + 1 + 1,0,none⟩ (.int .i64 (most:Nat))).setCell ⟨w.heap.size + 1 + 1,1,none⟩ (.slice p n c)).cell? ⟨w.heap.size + 1 + 1,1,none⟩ = some (.slice p n c) ∧ PS N ((wq.setCell ⟨w.heap.size + 1 + 1,0,none⟩ (.int .i64 (most:Nat))).setCell ⟨w.heap.size + 1 + 1,1,none⟩ (.slice p n c)) B sb most M' Kn J (.slice p n c) ∧ Frm w ((wq.setCell ⟨w.heap.size + 1 + 1,0,none⟩ (.int .i64 (most:Nat))).setCell ⟨w.heap.size + 1 + 1,1,none⟩ (.slice p n c)) (frN B N) := by
 obtain ⟨h2,hI,hF⟩ := int_int h.r (most:Nat) p n c
 obtain ⟨F,hs,hn⟩ := h.ps.sto
 have hM:Imm wq ((wq.setCell ⟨w.heap.size + 1 + 1,0,none⟩ (.int .i64 (most:Nat))).setCell ⟨w.heap.size + 1 + 1,1,none⟩ (.slice p n c)) := Imm.of_frm hF (fun k hk => by rw [show k = w.heap.size + 1 + 1 from hk]; exact h.r.mut (pln2 _ _ _ _ _) (by decide))
 have hFr := h.fr.trans hF (fun k hk => .inr (by rw [show k = w.heap.size + 1 + 1 from hk]; omega))
 obtain ⟨pb,dl,dm,pv,tv,C,T,sv,wo,hX,hd0,hI9,hW,hFF⟩ := hs
 refine ⟨box_cell h2 rfl,box_cell h2 rfl,⟨⟨F,⟨pb,dl,dm,pv,tv,C,T,sv,wo,hX.keep hF hM (fun k hk e => ?_),hd0,hI9,hW,hFF⟩,fun k hk => ⟨(hn k (.inl hk)).1,Nat.lt_of_lt_of_le (hn k (.inl hk)).2 hF.size⟩⟩,h.ps.doc.imm hM,h.ps.tab.keep (hF.below h.ps.hB (fun k hk => ?_)) h.ps.glo,h.ps.glo,Nat.le_trans h.ps.hB hF.size⟩,hFr⟩
 ·exact (hn _ (.inr e)).1 ((hFF k).2 hk)
 ·rw [show k = w.heap.size + 1 + 1 from hk]
  have := h.hb
  omega
end

end Go.Proofs.YtcibcfghkidncaaGreatDoor
