/- The document's store: Slots. The document's store: Versions. The document's store: Intent. The document's store: a row more. -/
import Derived.Test.YtcibcfghkidncaaGreatDoorGWSto19
import Derived.Test.YtcibcfghkidncaaGreatDoorGWNb
namespace Go.Proofs.YtcibcfghkidncaaGreatDoor
open Go.RowKit Go.Lib
set_option maxRecDepth 100000

theorem OwnI.none_at {w:World} {b g:Nat} (hb:b ≤ g) (h:Box w g #[] 3):OwnI w b (.slice (some ⟨g,0,none⟩) 0 0) [] := ⟨rfl,.inr ⟨g,0,#[],rfl,hb,h,Nat.le_refl _,Nat.zero_le _,rfl,rfl⟩⟩

set_option maxHeartbeats 2000000 in
theorem slotsD_any (B most:Nat) (v:Value) (L:List (Nat × Rs)) (w:World) (h:DocS w B v L) (hl:L.length ≤ 65536) :
  Calls Tryz.prog 30 #[.agg #[.int .i64 (most:Nat),v]] w fun e w' => (∃ v',e = .returned v' ∧ OwnI w' w.heap.size v' (L.map Prod.fst)) ∧ Below w.heap.size w w' := by
 obtain ⟨p,c,rfl,_⟩ := h.len
 obtain ⟨a1,a2,a3,a4⟩ := two_new w #[.int .i64 (most:Nat),.slice p L.length c] #[] 29 3
 have HB:Hid (Below w.heap.size w ((w.alloc (.cells #[.int .i64 (most:Nat),.slice p L.length c] 29)).alloc (.cells #[] 3)) ∧ ((w.alloc (.cells #[.int .i64 (most:Nat),.slice p L.length c] 29)).alloc (.cells #[] 3)).heap.size = w.heap.size + 2) := ⟨a3,a4⟩
 have HD:Hid (DocS w B (.slice p L.length c) L) := h
 have HX:Hid (Box ((w.alloc (.cells #[.int .i64 (most:Nat),.slice p L.length c] 29)).alloc (.cells #[] 3)) w.heap.size #[.int .i64 (most:Nat),.slice p L.length c] 29) := a1
 have HU:Hid (OwnI ((w.alloc (.cells #[.int .i64 (most:Nat),.slice p L.length c] 29)).alloc (.cells #[] 3)) (w.heap.size + 1) (.slice (some ⟨w.heap.size + 1,0,none⟩) 0 0) []) := OwnI.none_at (Nat.le_refl _) a2
 clear h a1 a2 a3 a4
 obtain ⟨n,hn⟩:∃ n,L.length = n := ⟨_,rfl⟩
 rw [hn] at HX HD HB HU hl
 rw [hn]
 go_enter Tryz.func30,Tryz.ntmps30
 go_upto_region 2 with fail
 generalize ((w.alloc (.cells #[.int .i64 (most:Nat),.slice p n c] 29)).alloc (.cells #[] 3)) = w0 at *
 go_wp2_with fail
 go_loopw [3,4] (fun u i wq => ∃ j:Nat,j ≤ n ∧ i = .int .i64 (j:Int) ∧ Hid (OwnI wq (w.heap.size + 1) u ((L.take j).map Prod.fst)) ∧ Hid (Below (w.heap.size + 1) w0 wq)) (fun _ i _ => n - (intOf i).toNat)
 case atStart => exact ⟨0,Nat.zero_le _,by go_num,HU.out,Below.refl _ _⟩
 case round =>
  obtain ⟨j,hj,rfl,hO,hb⟩ := hrel
  have hx:wr.cell? ⟨w.heap.size,1,none⟩ = some (.slice p n c) := by
   have h1 := HX.out
   unfold Box at h1
   rw [hb.out.cell (p := ⟨w.heap.size,1,none⟩) (Nat.lt_succ_self _)]
   simp [World.cell?,h1]
  have hsz:w.heap.size + 1 ≤ wr.heap.size := by
   have h1 := hb.out.size
   have h2 := HB.out.2
   omega
  by_cases hj0:j = n
  ·subst hj0
   have hO' := hO.out
   rw [← hn,List.take_length] at hO'
   have HO:Hid (OwnI wr (w.heap.size + 1) u3 (L.map Prod.fst)) := hO'
   obtain ⟨pu,cu,rfl,_⟩ := owns_len hO'
   clear hO' hO
   go_wp2_with fail
   go_ret
   exact ⟨⟨_,rfl,owns_base HO.out (Nat.le_succ _)⟩,HB.out.1.trans (hb.out.mono (Nat.le_succ _))⟩
  ·have hj1:j < L.length := by omega
   have hjn:j < n := by omega
   have hd := HD.out
   rw [← hn] at hd
   obtain ⟨g,c',vl,vw,e,hg,a0,_⟩ := hd.at hj1
   injection e with e1 e2 e3
   subst e1
   clear e2 e3 hd
   have hbw:Below w.heap.size w wr := HB.out.1.trans (hb.out.mono (Nat.le_succ _))
   have a1:wr.cell? ⟨g,j * 4,none⟩ = some (.int .i64 (L[j].1:Nat)) := (hbw.cell (p := ⟨g,j * 4,none⟩) hg).trans a0
   have HN:Hid ((L.take (j + 1)).map Prod.fst = (L.take j).map Prod.fst ++ [L[j].1]) := by
    show _ = _
    rw [List.take_add_one,List.getElem?_eq_getElem hj1,List.map_append]
    rfl
   have hA:((L.take j).map Prod.fst).length ≤ 65536 := by
    rw [List.length_map,List.length_take]
    omega
   obtain ⟨pu,cu,rfl,_⟩ := owns_len hO.out
   clear a0 hbw
   generalize L[j].1 = y at *
   generalize hAl:(L.take j).map Prod.fst = A at *
   go_wp2_with (first | (at_builtin; go_loud (refine wpList_app1a wr rfl (.tmp 13) (.tmp 20) 3 56 _ 1 8 rfl Tryz.underlying56 info_int rfl (by decide) (w.heap.size + 1) _ _ _ (by rfl) hO.out [.int .i64 (y:Nat)] rfl (by simp [Value.oneCell']) _ rfl (by simp) (by omega) (by omega) hsz ?_); intro v6 w6 h6 h7 h8 h9))
   have HO6:Hid (OwnI w6 (w.heap.size + 1) v6 ((L.take (j + 1)).map Prod.fst)) := by
    show OwnI _ _ _ _
    rw [HN.out]
    exact OwnI.app h6
   have HB6:Hid (Below (w.heap.size + 1) w0 w6) := hb.out.trans (((Below.refl _ _).alloc hsz _).grown h7 (by simp; omega) (fun b hb => (World.ownsRow.lt hO.out b hb).1))
   clear h6 h7 h8 h9
   go_wp2_with fail
   go_roundw
   case rel => exact ⟨j + 1,by omega,by go_num,HO6,HB6⟩
   case measure => simp [intOf]; omega

end Go.Proofs.YtcibcfghkidncaaGreatDoor

namespace Go.Proofs.YtcibcfghkidncaaGreatDoor
open Go.RowKit Go.Lib
set_option maxRecDepth 100000

theorem docL_at {M:List Rs} {i:Nat} {q:Nat × Rs} (h:(docL M)[i]? = some q):q.2 = getR M (q.1:Int) ∧ thr q.2 = true := by
 unfold docL at h
 rw [List.getElem?_map] at h
 cases e:(slM M)[i]? with
 | none => rw [e] at h; cases h
 | some x =>
  rw [e] at h
  simp only [Option.map_some,Option.some.injEq] at h
  subst h
  obtain ⟨r,hr,ht⟩ := mem_slM.1 (List.mem_of_getElem? e)
  have hd:M.getD x nilR = r := by rw [List.getD_eq_getElem?_getD,hr]; rfl
  exact ⟨by rw [getR_at hr]; exact hd,by rw [show (x,M.getD x nilR).2 = r from hd]; exact ht⟩
theorem docL_no {M:List Rs} {s:Int} (h:∀ p ∈ docL M,(p.1:Int) ≠ s):thr (getR M s) = false := by
 by_cases hs:s < 0
 ·rw [getR_out (.inl hs)]; rfl
 ·obtain ⟨x,rfl⟩:∃ x:Nat,s = (x:Int) := ⟨s.toNat,by omega⟩
  cases hr:M[x]? with
  | none =>
   have := List.getElem?_eq_none_iff.1 hr
   rw [getR_out (.inr (by omega))]; rfl
  | some r =>
   rw [getR_at hr]
   cases ht:thr r with
   | false => rfl
   | true =>
    have hm:x ∈ slM M := mem_slM.2 ⟨r,hr,ht⟩
    exact absurd rfl (h (x,M.getD x nilR) (List.mem_map_of_mem hm))
theorem thr_L {r:Rs} (h:thr r = false):r.L = [] := by
 cases e:r.L with
 | nil => rfl
 | cons a l => simp [thr,e] at h

set_option maxHeartbeats 2000000 in
theorem versionsD_any (B most:Nat) (v:Value) (M:List Rs) (s:Int) (w:World) (h:DocS w B v (docL M)) (hl:(docL M).length ≤ 65536) :
  Calls Tryz.prog 32 #[.agg #[.int .i64 (most:Nat),v],.int .i64 s] w fun e w' => (∃ v',e = .returned v' ∧ SlR .u64 w' v' (getR M s).L) ∧ Below w.heap.size w w' := by
 obtain ⟨p,c,rfl,_⟩ := h.len
 obtain ⟨bX,bB,bS⟩ := one_new w #[.int .i64 (most:Nat),.slice p (docL M).length c] 29
 have C1:Hid (Calls _ _ _ _ _) := find_any B most (.slice p (docL M).length c) (docL M) s _ (h.on bB) hl
 have HB:Hid (Below w.heap.size w (w.alloc (.cells #[.int .i64 (most:Nat),.slice p (docL M).length c] 29))) := bB
 have HX:Hid (Box (w.alloc (.cells #[.int .i64 (most:Nat),.slice p (docL M).length c] 29)) w.heap.size #[.int .i64 (most:Nat),.slice p (docL M).length c] 29) := bX
 have HD:Hid (DocS w B (.slice p (docL M).length c) (docL M)) := h
 clear h bX bB bS
 obtain ⟨n,hn⟩:∃ n,(docL M).length = n := ⟨_,rfl⟩
 rw [hn] at C1 HB HX HD hl
 rw [hn]
 go_enter Tryz.func32,Tryz.ntmps32
 go_upto_region 1 with fail
 generalize (w.alloc (.cells #[.int .i64 (most:Nat),.slice p n c] 29)) = w0 at *
 have x0:w0.cell? ⟨w.heap.size,0,none⟩ = some (.int .i64 (most:Nat)) := by
  have h1 := HX.out
  unfold Box at h1
  simp [World.cell?,h1]
 have x1:w0.cell? ⟨w.heap.size,1,none⟩ = some (.slice p n c) := by
  have h1 := HX.out
  unfold Box at h1
  simp [World.cell?,h1]
 go_wp2_with fail
 refine C1.out.mono ?_
 rintro e w1 ⟨⟨r,rfl,hr⟩,hb1⟩
 have HBw:Hid (Below w.heap.size w w1) := HB.out.trans (hb1.mono HB.out.size)
 have y1:w1.cell? ⟨w.heap.size,1,none⟩ = some (.slice p n c) := (hb1.cell (p := ⟨w.heap.size,1,none⟩) HX.out.lt).trans x1
 clear C1 hb1 x0 x1
 rcases hr with ⟨rfl,hno⟩ | ⟨i,q,hq,rfl,hqs⟩
 ·have HE:Hid ((getR M s).L = []) := thr_L (docL_no hno)
  clear hno
  go_wp2_with fail
  go_ret
  rw [HE.out]
  exact ⟨⟨_,rfl,SlR.nil _ _⟩,HBw.out⟩
 ·obtain ⟨hi,he⟩ := List.getElem?_eq_some_iff.1 hq
  have hd := HD.out
  rw [← hn] at hd
  obtain ⟨g,c',vl,vw,e,hg,b1,a1,b2,b3,a2,b4⟩ := hd.at hi
  clear b1 b2 b3 b4
  injection e with e1 e2 e3
  subst e1
  rw [he,(docL_at hq).1,hqs] at a2
  have HV:Hid (SlR .u64 w1 vl (getR M s).L) := a2.imm (Imm.of_below HBw.out)
  have z1:w1.cell? ⟨g,i * 4 + 1,none⟩ = some vl := (HBw.out.cell (p := ⟨g,i * 4 + 1,none⟩) hg).trans a1
  have hin:i < n := by omega
  obtain ⟨pl,cl,rfl,_⟩ := a2
  clear e2 e3 hd a1 he hq hqs hi
  go_wp2_with fail
  go_ret
  exact ⟨⟨_,rfl,HV.out⟩,HBw.out⟩

end Go.Proofs.YtcibcfghkidncaaGreatDoor

namespace Go.Proofs.YtcibcfghkidncaaGreatDoor
open Go.RowKit Go.Lib
set_option maxRecDepth 100000

theorem thr_tx' {r:Rs} (h:thr r = false):r.tx = 0 := by
 by_cases e:r.tx = 0
 ·exact e
 ·rw [tx_thr e] at h
  cases h

set_option maxHeartbeats 2000000 in
theorem intentD_any (B most J:Nat) (v:Value) (M:List Rs) (s:Int) (w:World) (h:DocS w B v (docL M)) (hM:OkR J (getR M s)) (hl:(docL M).length ≤ 65536) :
  Calls Tryz.prog 34 #[.agg #[.int .i64 (most:Nat),v],.int .i64 s] w fun e w' => (∃ v',e = .returned (.agg #[.int .i64 (getR M s).tx,v']) ∧ SlR .i64 w' v' (getR M s).W) ∧ Below w.heap.size w w' := by
 obtain ⟨p,c,rfl,_⟩ := h.len
 obtain ⟨bX,bY,bB,bS⟩ := two_new w #[.int .i64 (most:Nat),.slice p (docL M).length c] #[.int .i64 0,.slice none 0 0] 29 75
 have C1:Hid (Calls _ _ _ _ _) := find_any B most (.slice p (docL M).length c) (docL M) s _ (h.on bB) hl
 have HB:Hid (Below w.heap.size w ((w.alloc (.cells #[.int .i64 (most:Nat),.slice p (docL M).length c] 29)).alloc (.cells #[.int .i64 0,.slice none 0 0] 75))) := bB
 have HX:Hid (Box ((w.alloc (.cells #[.int .i64 (most:Nat),.slice p (docL M).length c] 29)).alloc (.cells #[.int .i64 0,.slice none 0 0] 75)) w.heap.size #[.int .i64 (most:Nat),.slice p (docL M).length c] 29) := bX
 have HY:Hid (Box ((w.alloc (.cells #[.int .i64 (most:Nat),.slice p (docL M).length c] 29)).alloc (.cells #[.int .i64 0,.slice none 0 0] 75)) (w.heap.size + 1) #[.int .i64 0,.slice none 0 0] 75 ∧ ((w.alloc (.cells #[.int .i64 (most:Nat),.slice p (docL M).length c] 29)).alloc (.cells #[.int .i64 0,.slice none 0 0] 75)).heap.size = w.heap.size + 2) := ⟨bY,bS⟩
 have HO:Hid (OkR J (getR M s)) := hM
 have HD:Hid (DocS w B (.slice p (docL M).length c) (docL M)) := h
 clear h bX bY bB bS hM
 obtain ⟨n,hn⟩:∃ n,(docL M).length = n := ⟨_,rfl⟩
 rw [hn] at C1 HB HX HD HY hl
 rw [hn]
 go_enter Tryz.func34,Tryz.ntmps34
 go_upto_region 1 with fail
 generalize ((w.alloc (.cells #[.int .i64 (most:Nat),.slice p n c] 29)).alloc (.cells #[.int .i64 0,.slice none 0 0] 75)) = w0 at *
 have x0:w0.cell? ⟨w.heap.size,0,none⟩ = some (.int .i64 (most:Nat)) := by
  have h1 := HX.out
  unfold Box at h1
  simp [World.cell?,h1]
 have x1:w0.cell? ⟨w.heap.size,1,none⟩ = some (.slice p n c) := by
  have h1 := HX.out
  unfold Box at h1
  simp [World.cell?,h1]
 go_wp2_with fail
 refine C1.out.mono ?_
 rintro e w1 ⟨⟨r,rfl,hr⟩,hb1⟩
 have HBw:Hid (Below w.heap.size w w1) := HB.out.trans (hb1.mono HB.out.size)
 have y1:w1.cell? ⟨w.heap.size,1,none⟩ = some (.slice p n c) := (hb1.cell (p := ⟨w.heap.size,1,none⟩) HX.out.lt).trans x1
 have HY1:Hid (Box w1 (w.heap.size + 1) #[.int .i64 0,.slice none 0 0] 75) := HY.out.1.on hb1
 have i0:w1.cell? ⟨w.heap.size + 1,0,none⟩ = some (.int .i64 0) := by
  have h1 := HY1.out
  unfold Box at h1
  simp [World.cell?,h1]
 have i1:w1.cell? ⟨w.heap.size + 1,1,none⟩ = some (.slice none 0 0) := by
  have h1 := HY1.out
  unfold Box at h1
  simp [World.cell?,h1]
 have f0:w1.frozen? ⟨w.heap.size + 1,0,none⟩ = false := by
  have h1 := HY1.out
  unfold Box at h1
  simp [World.frozen?,h1]
 have f1:w1.frozen? ⟨w.heap.size + 1,1,none⟩ = false := by
  have h1 := HY1.out
  unfold Box at h1
  simp [World.frozen?,h1]
 clear C1 hb1 x0 x1
 rcases hr with ⟨rfl,hno⟩ | ⟨i,q,hq,rfl,hqs⟩
 ·have HE:Hid ((getR M s).tx = 0 ∧ (getR M s).W = []) := ⟨thr_tx' (docL_no hno),HO.out.tx0.1 (thr_tx' (docL_no hno))⟩
  clear hno
  go_wp2_with fail
  have hZ := (HY1.out.set (i := 0) (.int .i64 0)).set (i := 1) (.slice none 0 0)
  have hF:Frm w1 ((w1.setCell ⟨w.heap.size + 1,0,none⟩ (.int .i64 0)).setCell ⟨w.heap.size + 1,1,none⟩ (.slice none 0 0)) (one1 (w.heap.size + 1)) := (frm_set w1 (w.heap.size + 1) 0 _ (F := one1 (w.heap.size + 1)) (.inl rfl)).trans (frm_set _ (w.heap.size + 1) 1 _ (F := one1 (w.heap.size + 1)) (.inl rfl)) (fun k hk => .inl hk)
  have hI:Imm w1 ((w1.setCell ⟨w.heap.size + 1,0,none⟩ (.int .i64 0)).setCell ⟨w.heap.size + 1,1,none⟩ (.slice none 0 0)) := Imm.of_frm hF (fun k hk => by rw [show k = w.heap.size + 1 from hk]; exact HY1.out.mut (pln2 _ _ _ _ _) (by decide))
  have hB9 := HBw.out.trans (hF.below HBw.out.size (fun k hk => by rw [show k = w.heap.size + 1 from hk]; exact Nat.le_succ _))
  generalize (w1.setCell ⟨w.heap.size + 1,0,none⟩ (.int .i64 0)).setCell ⟨w.heap.size + 1,1,none⟩ (.slice none 0 0) = w9 at *
  have z0:w9.cell? ⟨w.heap.size + 1,0,none⟩ = some (.int .i64 0) := by
   have h1 := hZ
   unfold Box at h1
   simp [World.cell?,h1]
  have z2:w9.cell? ⟨w.heap.size + 1,1,none⟩ = some (.slice none 0 0) := by
   have h1 := hZ
   unfold Box at h1
   simp [World.cell?,h1]
  (try simp only [Exit.inBlock,Exit.then])
  refine bodyPost_ret (v := .agg #[.int .i64 0,(.slice none 0 0)]) (by simp [results,Tryz.results34,go_sem,z0,z2]) rfl ?_
  rw [HE.out.1,HE.out.2]
  exact ⟨⟨_,rfl,SlR.nil _ _⟩,hB9⟩
 ·obtain ⟨hi,he⟩ := List.getElem?_eq_some_iff.1 hq
  have hd := HD.out
  rw [← hn] at hd
  obtain ⟨g,c',vl,vw,e,hg,b1,b2,a0,a1,b3,a2⟩ := hd.at hi
  clear b1 b2 b3
  injection e with e1 e2 e3
  subst e1
  rw [he,(docL_at hq).1,hqs] at a2 a0
  have HV:Hid (SlR .i64 w1 vw (getR M s).W) := a2.imm (Imm.of_below HBw.out)
  have z3:w1.cell? ⟨g,i * 4 + 2,none⟩ = some (.int .i64 (getR M s).tx) := (HBw.out.cell (p := ⟨g,i * 4 + 2,none⟩) hg).trans a0
  have z4:w1.cell? ⟨g,i * 4 + 3,none⟩ = some vw := (HBw.out.cell (p := ⟨g,i * 4 + 3,none⟩) hg).trans a1
  have hin:i < n := by omega
  obtain ⟨pl,cl,rfl,_⟩ := a2
  generalize hnw:(getR M s).W.length = nw at *
  generalize htx:(getR M s).tx = tx at *
  have HTX:Hid ((getR M s).tx = tx) := htx
  clear e2 e3 hd a0 a1 he hq hqs hi hnw htx
  go_wp2_with fail
  have hZ := (HY1.out.set (i := 0) (.int .i64 tx)).set (i := 1) (.slice pl nw cl)
  have hF:Frm w1 ((w1.setCell ⟨w.heap.size + 1,0,none⟩ (.int .i64 tx)).setCell ⟨w.heap.size + 1,1,none⟩ (.slice pl nw cl)) (one1 (w.heap.size + 1)) := (frm_set w1 (w.heap.size + 1) 0 _ (F := one1 (w.heap.size + 1)) (.inl rfl)).trans (frm_set _ (w.heap.size + 1) 1 _ (F := one1 (w.heap.size + 1)) (.inl rfl)) (fun k hk => .inl hk)
  have hI:Imm w1 ((w1.setCell ⟨w.heap.size + 1,0,none⟩ (.int .i64 tx)).setCell ⟨w.heap.size + 1,1,none⟩ (.slice pl nw cl)) := Imm.of_frm hF (fun k hk => by rw [show k = w.heap.size + 1 from hk]; exact HY1.out.mut (pln2 _ _ _ _ _) (by decide))
  have hB9 := HBw.out.trans (hF.below HBw.out.size (fun k hk => by rw [show k = w.heap.size + 1 from hk]; exact Nat.le_succ _))
  generalize (w1.setCell ⟨w.heap.size + 1,0,none⟩ (.int .i64 tx)).setCell ⟨w.heap.size + 1,1,none⟩ (.slice pl nw cl) = w9 at *
  have z0:w9.cell? ⟨w.heap.size + 1,0,none⟩ = some (.int .i64 tx) := by
   have h1 := hZ
   unfold Box at h1
   simp [World.cell?,h1]
  have z2:w9.cell? ⟨w.heap.size + 1,1,none⟩ = some (.slice pl nw cl) := by
   have h1 := hZ
   unfold Box at h1
   simp [World.cell?,h1]
  (try simp only [Exit.inBlock,Exit.then])
  refine bodyPost_ret (v := .agg #[.int .i64 tx,(.slice pl nw cl)]) (by simp [results,Tryz.results34,go_sem,z0,z2]) rfl ?_
  exact ⟨⟨_,by rw [HTX.out],HV.out.imm hI⟩,hB9⟩

end Go.Proofs.YtcibcfghkidncaaGreatDoor

namespace Go.Proofs.YtcibcfghkidncaaGreatDoor
open Go.RowKit Go.Lib
set_option maxRecDepth 100000

theorem info_row:(Tryz.prog.info? 77).map (fun i => (i.zero,i.size,i.bytes)) = some (some (.agg #[.int .i64 0,.slice none 0 0,.int .i64 0,.slice none 0 0]),4,64) := by kernel_rfl

theorem nb_slice (p:Option Addr) (n c:Nat):nb (.slice p n c) := ⟨by simp,by simp⟩
theorem nbs_zeroN {c:Array Value} (hz:nbs c) (hc:0 < c.size) (n:Nat):nbs (Builtin.zeroCells c n) := by
 intro j v hj
 unfold Builtin.zeroCells at hj
 simp only [Array.getElem?_map,Option.map_eq_some_iff] at hj
 obtain ⟨i,_,hi⟩ := hj
 have hl:i % c.size < c.size := Nat.mod_lt _ hc
 rw [getElem!_pos c (i % c.size) hl] at hi
 rw [← hi]
 exact hz (i % c.size) _ (Array.getElem?_eq_getElem hl)
section
variable {P:Program} (w:World)
theorem append_nbN (base:Nat) (t ty e:TypeId) (i:TypeInfo) (z:Value) (size bytes:Nat) (ht:P.underlying t = some (.slice e)) (hi:P.info? e = some i) (hz:i.zero = some z)
  (hsize:i.size = size) (hby:i.bytes = bytes) (hzc:z.cells.size = size) (hsz:0 < size) (hzn:nbs z.cells)
  (v:Value) (n:Nat) (xs:List Value) (hown:w.ownsRow base e size v n xs) (hN:NB w v)
  (a:Addr) (c:Nat) (us:List Value) (hus:us.length = size) (hn1:∀ j u,us[j]? = some u → w.cell? (a.add j) = some u) (h1:∀ u ∈ us,u.oneCell' = true) (hx:∀ u ∈ us,nb u)
  (h63:n + 1 ≤ maxLen) (hbytes:(n + 1) * bytes ≤ 140737488355328) {v':Value} {w':World} (hr:(Builtin.append_ #[t,t] ty #[v,.slice (some a) 1 c]).run P w = .ok v' w'):NB w' v' := by
 subst hby
 have hsmall:n + 1 ≤ 9223372036854775807 := by simp only [maxLen] at h63; omega
 have hl1:us.length = 1 * i.size := by rw [hsize,hus,Nat.one_mul]
 have hxl:nbs us.toArray := nbs_list hx
 have mk:∀ (cs:Array Value) (wd:World) (u:Value),nbs cs → u.ownBlock = some w.heap.size → wd = w.drew.alloc (.cells cs e) → NB wd u := by
  rintro cs wd u hc hu rfl g cs' T z' hg hk
  rw [hu] at hg
  cases hg
  have h9:(w.drew.alloc (.cells cs e)).heap[w.heap.size]? = some (.cells cs e) := heap_alloc_new w.drew _
  rw [h9] at hk
  cases hk
  exact hc
 have hz9:∀ k,nbs (Builtin.zeroCells z.cells k) := fun k => nbs_zeroN hzn (by omega) k
 rcases hown.2 with ⟨rfl,rfl⟩ | ⟨g,cap,cur,rfl,hbg,hg,hnc,hcm,hcs,htake⟩
 ·have hr' := run_append_nil (P := P) w t ty e i z ht hi hz a 1 c us hl1 hn1 (by decide) (by decide) (by have hb := hbytes; simp only [Nat.zero_add] at hb; omega)
  rw [hr'] at hr
  cases hr
  exact mk _ _ _ (nbs_app hxl (hz9 _)) rfl rfl
 ·by_cases hroom:n + 1 ≤ cap
  ·have hfit:n * i.size + us.length ≤ cur.size := by
    rw [hsize,hcs,hus]
    have := Nat.mul_le_mul_right size hroom
    rw [Nat.succ_mul] at this
    omega
   have hr' := run_append_room (P := P) w t ty e i ht hi g n cap cur hg a 1 c us hl1 hn1 h1 hroom hfit
   rw [hr'] at hr
   cases hr
   intro g' cs' T z' hg' hk
   cases hg'
   rw [setRow_heap w g cur _ e _ hg] at hk
   cases hk
   have hc:nbs cur := hN g cur e (0,0) rfl hg
   refine nbs_list (fun u hu => ?_)
   rcases List.mem_append.1 hu with hu | hu
   ·rcases List.mem_append.1 hu with hu | hu
    ·exact nbs_mem hc u (List.mem_of_mem_take hu)
    ·exact hx u hu
   ·exact nbs_mem hc u (List.mem_of_mem_drop hu)
  ·have holds:∀ j u,xs[j]? = some u → w.cell? ((⟨g,0,none⟩:Addr).add j) = some u := hown.cells (g := g) rfl
   have hr' := run_append_grow (P := P) w t ty e i z ht hi hz ⟨g,0,none⟩ n cap xs (by rw [hsize]; exact hown.1) holds a 1 c us hl1 hn1 (by omega) (by omega) (growslice_fits (by omega) hbytes)
   rw [hr'] at hr
   cases hr
   have hc:nbs cur := hN g cur e (0,0) rfl hg
   refine mk _ _ _ (nbs_app (nbs_app (nbs_list (fun u hu => ?_)) hxl) (hz9 _)) rfl rfl
   rw [← htake] at hu
   exact nbs_mem hc u (List.mem_of_mem_take hu)
end
structure ImV (w w':World):Prop where
 size:w.heap.size ≤ w'.heap.size
 blk:∀ (k:Nat) (cs:Array Value) (T:TypeId) (z:Nat × Nat),w.heap[k]? = some (.cells cs T z) → ¬ Pln cs → w'.heap[k]? = w.heap[k]?
theorem ImV.trans {w w1 w2:World} (h:ImV w w1) (h':ImV w1 w2):ImV w w2 :=
 ⟨Nat.le_trans h.size h'.size,fun k cs T z hk hc => (h'.blk k cs T z ((h.blk k cs T z hk hc).trans hk) hc).trans (h.blk k cs T z hk hc)⟩
theorem ImV.of_imm {w w':World} (h:Imm w w'):ImV w w' := ⟨h.size,fun k cs T z hk hc => h.blk k cs T z hk (.inl hc)⟩
theorem ImV.of_below {w w':World} (h:Below w.heap.size w w'):ImV w w' := ImV.of_imm (Imm.of_below h)
theorem ImV.grown {w w':World} {o:Obj} {v:Value} (hN:NB w v) (hg:(w.alloc o).grownBy w' v.ownBlock):ImV w w' := by
 refine ⟨Nat.le_trans (by simp) hg.size,fun k cs T z hk hc => ?_⟩
 have hlt := lt_of_block hk
 by_cases e:v.ownBlock = some k
 ·exact absurd (hN k cs T z e hk).pln hc
 ·rw [hg.block k (by simp; omega) (fun h => e h.symm)]
  first | exact heap_alloc_old w o hlt | exact heap_alloc_old w o _ hlt
theorem ImV.set {w:World} {k i:Nat} {x:Value} {cs:Array Value} {T:TypeId} (h:Box w k cs T) (hp:Pln cs):ImV w (w.setCell ⟨k,i,none⟩ x) := by
 have hF := frm_set w k i x (F := one1 k) (.inl rfl)
 refine ⟨hF.size,fun j cs' T' z hk hc => hF.block j (lt_of_block hk) (fun hj => ?_)⟩
 have e:j = k := hj
 subst e
 have h1:w.heap[j]? = _ := h
 rw [h1] at hk
 cases hk
 exact hc hp
theorem RowV.imv {w w':World} {p:Option Addr} {L:List Vl} (h:RowV w w.heap.size p L) (hi:ImV w w'):RowV w' w'.heap.size p L := by
 intro i hl
 obtain ⟨b,o,e,hb,c0,c1,c2,c3⟩ := h i hl
 obtain ⟨cs,T,z,hk,hc⟩ := cell_blk c2
 have hs := hi.blk b cs T z hk (fun hp => hp.2 _ _ _ hc)
 have kk:∀ {m:Nat} {v:Option Value},w.cell? ⟨b,m,none⟩ = v → w'.cell? ⟨b,m,none⟩ = v := fun {m v} hc => (World.cell?_of_block (a := ⟨b,m,none⟩) hs).trans hc
 exact ⟨b,o,e,Nat.lt_of_lt_of_le hb hi.size,kk c0,kk c1,kk c2,kk c3⟩
theorem RdR.imv {k:IntKind} {w w':World} {p:Option Addr} {L:List Rw} (h:RdR k w w.heap.size p L) (hi:ImV w w'):RdR k w' w'.heap.size p L := by
 intro i hl
 obtain ⟨b,o,q,c,e,hb,c0,c1,c2,hr,hq⟩ := h i hl
 obtain ⟨cs,T,z,hk,hc⟩ := cell_blk c1
 obtain ⟨cs',T',z',hk',hc'⟩ := cell_blk c0
 rw [hk] at hk'
 cases hk'
 have hs := hi.blk b cs T z hk (fun hp => hp.1 _ _ _ _ hc' hc)
 have kk:∀ {m:Nat} {v:Option Value},w.cell? ⟨b,m,none⟩ = v → w'.cell? ⟨b,m,none⟩ = v := fun {m v} hc => (World.cell?_of_block (a := ⟨b,m,none⟩) hs).trans hc
 exact ⟨b,o,q,c,e,Nat.lt_of_lt_of_le hb hi.size,kk c0,kk c1,kk c2,hr.imv hi,hq⟩
theorem SlR.imv {k:IntKind} {w w':World} {v:Value} {L:List Rw} (h:SlR k w v L) (hi:ImV w w'):SlR k w' v L := by
 obtain ⟨p,c,e,h,hn⟩ := h
 exact ⟨p,c,e,h.imv hi,hn⟩
theorem SlR.nbv {k:IntKind} {w:World} {v:Value} {L:List Rw} (h:SlR k w v L):nb v ∧ v.oneCell' = true := by
 obtain ⟨p,c,rfl,_⟩ := h
 exact ⟨nb_slice _ _ _,rfl⟩
def DocN (w:World) (B:Nat) (v:Value) (L:List (Nat × Rs)):Prop := DocS w B v L ∧ NB w v
theorem DocN.nil (w:World) (B:Nat):DocN w B (.slice none 0 0) [] := ⟨DocS.nil w B,NB.nil w⟩
theorem DocS.lt {w:World} {B:Nat} {v:Value} {L:List (Nat × Rs)} (h:DocS w B v L):∀ g,v.ownBlock = some g → B ≤ g ∧ g < w.heap.size := by
 obtain ⟨Z,e,ho,hz⟩ := h
 exact ho.lt
theorem DocN.on {w w':World} {B:Nat} {v:Value} {L:List (Nat × Rs)} (h:DocN w B v L) (hb:Below w.heap.size w w'):DocN w' B v L := ⟨h.1.on hb,h.2.frm (G := none1) (Frm.of_below hb) (fun g hg => ⟨(h.1.lt g hg).2,fun h => h⟩)⟩
theorem DocN.frm {w w':World} {B:Nat} {v:Value} {L:List (Nat × Rs)} {F:Nat → Prop} (h:DocN w B v L) (hf:Frm w w' F) (hi:ImV w w') (hF:∀ g,v.ownBlock = some g → ¬ F g):DocN w' B v L := by
 refine ⟨?_,h.2.frm hf (fun g hg => ⟨(h.1.lt g hg).2,hF g hg⟩)⟩
 obtain ⟨Z,e,ho,hz⟩ := h.1
 refine ⟨Z,e,⟨ho.1,?_⟩,fun z hm => ⟨(hz z hm).1.imv hi,(hz z hm).2.imv hi⟩⟩
 rcases ho.2 with h1 | ⟨g,cap,cur,e,hb',hg,r⟩
 ·exact .inl h1
 ·exact .inr ⟨g,cap,cur,e,hb',(hf.block g (lt_of_block hg) (hF g (by rw [e]; rfl))).trans hg,r⟩
theorem wpList_doc {ops:Array Oper} {rest:List Oper} {o:Oper} {a:Act} {Q:Exit → Act → World → Prop} (w:World) (hgd:o.guard = none) (s x:Operand)
  (ho:o.op = .call { callee := .builtin .append,args := #[s,x],argTypes := #[27,27] })
  (B:Nat) (v:Value) (L:List (Nat × Rs)) (hs:a.eval s = v) (hD:DocN w B v L) (k:Nat) (r:Rs) (vl vw:Value) (hl:SlR .u64 w vl r.L) (hw:SlR .i64 w vw r.W)
  (g:Nat) (hx:a.eval x = .slice (some ⟨g,0,none⟩) 1 1) (hgz:g = w.heap.size) (hlen:L.length ≤ 65536) (hbase:B ≤ w.heap.size)
  (h:∀ v' w',DocN w' B v' (L ++ [(k,r)]) → (w.alloc (.cells #[.int .i64 (k:Nat),vl,.int .i64 r.tx,vw] 77)).grownBy w' v.ownBlock → Frm w w' (fun g => v.ownBlock = some g) → ImV w w' → wpList Tryz.prog ops Q rest (a.put o.dst v') w'):wpList Tryz.prog ops Q (o :: rest) a (w.alloc (.cells #[.int .i64 (k:Nat),vl,.int .i64 r.tx,vw] 77)) := by
 obtain ⟨i,hi,hz0,hz1,hz2⟩ := info_parts1 info_row
 subst hgz
 obtain ⟨⟨Z,rfl,hown,hz⟩,hN⟩ := hD
 rw [List.length_map] at hlen
 have hus:∀ u ∈ [Value.int .i64 (k:Nat),vl,.int .i64 r.tx,vw],nb u ∧ u.oneCell' = true := by
  intro u hu
  simp only [List.mem_cons,List.not_mem_nil,or_false] at hu
  rcases hu with rfl | rfl | rfl | rfl
  ·exact ⟨nb_int _ _,rfl⟩
  ·exact hl.nbv
  ·exact ⟨nb_int _ _,rfl⟩
  ·exact hw.nbv
 have hown' := hown.alloc (.cells #[.int .i64 (k:Nat),vl,.int .i64 r.tx,vw] 77)
 have hN':NB (w.alloc (.cells #[.int .i64 (k:Nat),vl,.int .i64 r.tx,vw] 77)) v := hN.frm (G := none1) (Frm.of_below ((Below.refl _ _).alloc (Nat.le_refl _) _)) (fun g hg => ⟨(hown.lt g hg).2,fun h => h⟩)
 have hn1:∀ j y,[Value.int .i64 (k:Nat),vl,.int .i64 r.tx,vw][j]? = some y → (w.alloc (.cells #[.int .i64 (k:Nat),vl,.int .i64 r.tx,vw] 77)).cell? ((⟨w.heap.size,0,none⟩:Addr).add j) = some y := by
  intro j y hj
  have e:(⟨w.heap.size,0,none⟩:Addr).add j = ⟨w.heap.size,j,none⟩ := by unfold Addr.add; split <;> simp_all
  rw [e,World.cell?_alloc_new]
  simpa using hj
 refine wpList_plain hgd fun K hK => ?_
 obtain ⟨v',w',hr,h2,h3,h4,h5⟩ := run_append_own_at (P := Tryz.prog) (w.alloc (.cells #[.int .i64 (k:Nat),vl,.int .i64 r.tx,vw] 77)) B 27 o.type 77 i _ 4 64 Tryz.underlying27 hi hz0 hz1 hz2 (by rfl) (by decide) v Z.length _ hown' ⟨w.heap.size,0,none⟩ 1 1 [.int .i64 (k:Nat),vl,.int .i64 r.tx,vw] rfl hn1 (fun y hy => (hus y hy).2) (by unfold maxLen; omega) (by omega) (by simp; omega)
 have hnb := append_nbN (P := Tryz.prog) (w.alloc (.cells #[.int .i64 (k:Nat),vl,.int .i64 r.tx,vw] 77)) B 27 o.type 77 i _ 4 64 Tryz.underlying27 hi hz0 hz1 hz2 (by rfl) (by decide) (nbs_list (l := [.int .i64 0,.slice none 0 0,.int .i64 0,.slice none 0 0]) (fun u hu => by
  simp only [List.mem_cons,List.not_mem_nil,or_false] at hu
  rcases hu with rfl | rfl | rfl | rfl
  ·exact nb_int _ _
  ·exact nb_slice _ _ _
  ·exact nb_int _ _
  ·exact nb_slice _ _ _)) v Z.length _ hown' hN' ⟨w.heap.size,0,none⟩ 1 [.int .i64 (k:Nat),vl,.int .i64 r.tx,vw] rfl hn1 (fun y hy => (hus y hy).2) (fun y hy => (hus y hy).1) (by unfold maxLen; omega) (by omega) hr
 have hI:ImV w w' := ImV.grown hN h3
 have hF:Frm w w' (fun g => v.ownBlock = some g) := by
  refine ⟨h3.os,h3.tape,h3.output,Nat.le_trans (by simp) h3.size,fun k hk hn => ?_⟩
  rw [h3.block k (by simp; omega) (fun h => hn h.symm)]
  first | exact heap_alloc_old w _ hk | exact heap_alloc_old w _ _ hk
 unfold Oper.wp execOp
 simp only [ho,resolve,invoke,builtin,Sem.run_bind,Sem.run_pure,Result.andThen_ok,List.map_toArray,List.map_cons,List.map_nil,hs,hx,hr]
 refine hK _ _ (h v' w' ⟨⟨Z ++ [((k,r),(vl,vw))],by simp,?_,fun z hm => ?_⟩,hnb⟩ h3 hF hI)
 ·rw [List.length_append,List.flatMap_append]
  simpa [rw4] using h2
 ·rcases List.mem_append.1 hm with hm | hm
  ·exact ⟨(hz z hm).1.imv hI,(hz z hm).2.imv hI⟩
  ·rw [List.mem_singleton] at hm
   subst hm
   exact ⟨hl.imv hI,hw.imv hI⟩

end Go.Proofs.YtcibcfghkidncaaGreatDoor
