/- A store: grow. A store: a slot is taken. A store's rows as the document has them: plain mathematics. The document's store in memory; find. -/
import Derived.Test.YtcibcfghkidncaaGreatDoorGWSto14h
namespace Go.Proofs.YtcibcfghkidncaaGreatDoor
open Go.RowKit Go.Lib Go.Maps
set_option maxRecDepth 100000

theorem info_cel:(Tryz.prog.info? 163).map (fun i => (i.zero,i.size,i.bytes)) = some (some (.pointer none),1,8) := by kernel_rfl
section
variable {B sb most pb pb':Nat} {ls:Int} {dl:Nat → Int} {dm:Nat → Option Nat} {pv pv' tv:Value} {C:List (Nat × Nat)} {T:List Nat} {sv:Int → Value} {wo:Int → List Nat} {M:List Rs} {K cb:Nat} {r:Rs} {w w':World}
theorem StX.more {G:Nat → Prop} (h:StX w B sb most pb ls dl dm pv tv C T sv wo M K) (hf:Frm w w' G) (hG:∀ k,G k → k = sb ∨ pv.ownBlock = some k) (hb:SBk w' sb most pb' ls tv dl dm) (hbx:PBox w' pb' pv') (ho:w'.ownsRow B 163 1 pv' (C.length + 1) ((C.map fun c => ptr1 c.1) ++ [ptr1 cb])) (hn:NB w' pv') (hp:PlcN w' cb 1 r) (hB:B ≤ cb) (hcb:∀ a ∈ C,a.1 ≠ cb) (hK:1 ≤ K):StX w' B sb most pb' ls dl dm pv' tv (C ++ [(cb,1)]) T sv wo (M ++ [r]) K := by
 have hi:Imm w w' := Imm.of_frm hf (fun k hk => (h.mut ((hG k hk).elim .inl (fun e => .inr (.inr (.inl e))))).1)
 have n1:∀ g,tv.ownBlock = some g → ¬ G g := fun g hg e => (hG g e).elim (h.sb_tv hg) (fun e => h.tv_pv hg e rfl)
 have n2:∀ c ∈ C,¬ G c.1 := fun c hc e => (hG _ e).elim (h.sb_cel hc) (fun e => h.cel_pv hc e rfl)
 refine ⟨hb,h.base,owns_frm h.tak hf n1,⟨hbx,?_,?_,?_,?_,?_,hn⟩,h.dsk.frm hf (fun d mb hd hm e => (hG _ e).elim (h.sb_map hd hm) (fun e => h.pv_map e hd hm rfl)) (fun t g ht hg e => (hG _ e).elim (h.sb_sv ht hg) (fun e => h.pv_sv e ht hg rfl)),h.tnb.frm hf (fun g hg => ⟨(World.ownsRow.lt h.tak g hg).2,n1 g hg⟩)⟩
 ·rw [List.length_append,List.map_append]
  exact ho
 ·rw [List.length_append,List.length_append,h.plc.len]
  rfl
 ·intro i cb' n' r' hc hm
  rcases Nat.lt_or_ge i C.length with hl | hl
  ·rw [List.getElem?_append_left hl] at hc
   rw [List.getElem?_append_left (by rw [← h.plc.len]; exact hl)] at hm
   obtain ⟨a1,a2⟩ := h.plc.cel i cb' n' r' hc hm
   exact ⟨a1,a2.frm hf hi (n2 (cb',n') (List.mem_of_getElem? hc))⟩
  ·rw [List.getElem?_append_right hl] at hc
   rw [List.getElem?_append_right (by rw [← h.plc.len]; exact hl),← h.plc.len] at hm
   cases e:i - C.length with
   | zero =>
    rw [e] at hc hm
    simp at hc hm
    obtain ⟨rfl,rfl⟩ := hc
    subst hm
    exact ⟨hB,hp⟩
   | succ k =>
    rw [e] at hc
    simp at hc
 ·intro c hc
  rcases List.mem_append.1 hc with hc | hc
  ·exact h.plc.num c hc
  ·rw [List.mem_singleton] at hc
   subst hc
   exact hK
 ·refine List.pairwise_append.2 ⟨h.plc.ne,by simp,fun a ha b hb e => ?_⟩
  rw [List.mem_singleton] at hb
  subst hb
  exact hcb a ha e

set_option maxHeartbeats 4000000 in
theorem grow_any (p q:Option Addr) (c:Nat) (r:Rs) (w:World) (h:StX w B sb most pb ls dl dm pv tv C T sv wo M K) (hs:StR w p q c r) (hK:1 ≤ K) (hl:C.length ≤ 65536) :
  Calls Tryz.prog 99 #[ptr1 sb,stV p q c r] w fun e w' => e = .returned (.tuple #[]) ∧ (∃ pb' pv' cb,StX w' B sb most pb' ls dl dm pv' tv (C ++ [(cb,1)]) T sv wo (M ++ [r]) K ∧ ∀ k,stF sb dm pv' tv (C ++ [(cb,1)]) sv wo k → stF sb dm pv tv C sv wo k ∨ w.heap.size ≤ k) ∧ Frm w w' (stF sb dm pv tv C sv wo) := by
 obtain ⟨tx,htx⟩:∃ x,r.tx = x := ⟨_,rfl⟩
 obtain ⟨n,hn⟩:∃ x,r.W.length = x := ⟨_,rfl⟩
 simp only [stV,htx,hn]
 obtain ⟨bX,bB,bS⟩ := one_new w #[.pointer p,.int .i64 tx,.slice q n c] 125
 have hs0:(w.alloc (.cells #[.pointer p,.int .i64 tx,.slice q n c] 125)).heap.size = w.heap.size + 1 := by simp
 have HX0:Hid (stB (w.alloc (.cells #[.pointer p,.int .i64 tx,.slice q n c] 125)) w.heap.size p tx q n c ∧ Below w.heap.size w (w.alloc (.cells #[.pointer p,.int .i64 tx,.slice q n c] 125))) := ⟨bX,bB⟩
 have HS:Hid (StX w B sb most pb ls dl dm pv tv C T sv wo M K) := h
 have HR:Hid (StR w p q c r ∧ r.tx = tx ∧ r.W.length = n) := ⟨hs,htx,hn⟩
 clear h hs bX bB bS htx hn
 go_enter Tryz.func99,Tryz.ntmps99
 go_upto_region 1 with fail
 generalize (w.alloc (.cells #[.pointer p,.int .i64 tx,.slice q n c] 125)) = w0 at *
 have HZ0:Hid (w0.heap.size = w.heap.size + 1) := hs0
 clear hs0
 have C1:Hid (Calls _ _ _ _ _) := new_any w0
 go_wp2_with fail
 refine C1.out.mono ?_
 rintro e w1 ⟨rfl,hc1,hz1,hb1⟩
 have C2:Hid (Calls _ _ _ _ _) := cput_none w0.heap.size p tx q n c w1 hc1
 have hX1 := HX0.out.1.on hb1
 obtain ⟨⟨x0,x1,x2⟩,_⟩ := box3 hX1
 have hbw1:Below w.heap.size w w1 := HX0.out.2.trans (hb1.mono HX0.out.2.size)
 have HB1:Hid (Below w.heap.size w w1 ∧ w1.heap.size = w0.heap.size + 1) := ⟨hbw1,hz1⟩
 clear hc1 hz1 hb1 C1 hX1 hbw1
 go_wp2_with fail
 refine C2.out.mono ?_
 rintro e w2 ⟨rfl,⟨g,hg1,hg2,hg3⟩,hf2⟩
 have hs0 := HZ0.out
 have hb2:Below w.heap.size w w2 := HB1.out.1.trans (hf2.below HB1.out.1.size (fun k hk => by rw [hk]; omega))
 have hS2 := HS.out.on hb2
 have HS2:Hid (StX w2 B sb most pb ls dl dm pv tv C T sv wo M K) := hS2
 have HP2:Hid (PlcN w2 w0.heap.size 1 r ∧ Below w.heap.size w w2 ∧ w.heap.size ≤ w0.heap.size ∧ w0.heap.size < w2.heap.size) := ⟨⟨g,p,q,c,hg2,by rw [HR.out.2.1,HR.out.2.2]; exact hg3,HR.out.1.imm (Imm.of_below hb2)⟩,hb2,by omega,hg2.lt⟩
 clear hs0
 have C3:Hid (Calls _ _ _ _ _) := sload_any sb pb pv w2 hS2.blk.cell.1.2.1 hS2.plc.box
 have p0 := (show Box w2 pb #[pv] 105 from hS2.plc.box).cell0.1
 obtain ⟨pp,cc,hpv,_⟩ := owns_len hS2.plc.own
 have hB2:B ≤ w2.heap.size := Nat.le_trans hS2.base (Nat.le_of_lt hS2.blk.lt)
 subst hpv
 clear hS2 hg1 hg2 hg3 hf2 hb2 C2 x0 x1 x2
 go_wp2_with fail
 refine C3.out.mono ?_
 rintro e w9 ⟨rfl,hw⟩
 rw [hw]
 clear hw w9 C3
 go_upto_region 4 with (first | (at_builtin; go_loud (refine wpList_app1n w2 rfl (.tmp 15) (.tmp 17) 163 105 _ 8 rfl Tryz.underlying105 info_cel rfl (nb_ptr _) B _ _ _ (by rfl) HS2.out.plc.own HS2.out.plc.nbp (ptr1 w0.heap.size) rfl (nb_ptr _) w2.heap.size (by rfl) rfl (by omega) (by omega) hB2 ?_); intro v6 w6 h6 h7 h8 h9 h10; obtain ⟨p6,c6,rfl,_⟩ := owns_len h6))
 have hfg := grown_frm h7
 have hba:Below w6.heap.size w6 (w6.alloc (.cells #[.slice p6 (C.length + 1) c6] 105)) := (Below.refl _ _).alloc (Nat.le_refl _) _
 have hf7:Frm w2 (w6.alloc (.cells #[.slice p6 (C.length + 1) c6] 105)) (fun k => (Value.slice pp C.length cc).ownBlock = some k) := hfg.trans (Frm.of_below (F := none1) hba) (fun k hk => hk.elim)
 have hbk := HS2.out.blk.frm hf7 (fun e => HS2.out.sb_pv e rfl)
 have hbx:PBox (w6.alloc (.cells #[.slice p6 (C.length + 1) c6] 105)) w6.heap.size (.slice p6 (C.length + 1) c6) := Box.new w6 _ _
 have C4:Hid (Calls _ _ _ _ _) := sstore_any sb w6.heap.size (some ⟨pb,0,none⟩) (.slice p6 (C.length + 1) c6) _ hbk.cell.1.2.1 (hbk.cell.2 1) hbx
 have hsb2 := HS2.out.blk.lt
 have HQ:Hid (PBox (w6.alloc (.cells #[.slice p6 (C.length + 1) c6] 105)) w6.heap.size (.slice p6 (C.length + 1) c6) ∧ SBk (w6.alloc (.cells #[.slice p6 (C.length + 1) c6] 105)) sb most pb ls tv dl dm ∧ Frm w2 (w6.alloc (.cells #[.slice p6 (C.length + 1) c6] 105)) (fun k => (Value.slice pp C.length cc).ownBlock = some k) ∧ (w6.alloc (.cells #[.slice p6 (C.length + 1) c6] 105)).ownsRow B 163 1 (.slice p6 (C.length + 1) c6) (C.length + 1) ((C.map fun c => ptr1 c.1) ++ [ptr1 w0.heap.size]) ∧ NB (w6.alloc (.cells #[.slice p6 (C.length + 1) c6] 105)) (.slice p6 (C.length + 1) c6) ∧ w2.heap.size ≤ w6.heap.size ∧ ((Value.slice p6 (C.length + 1) c6).ownBlock = (Value.slice pp C.length cc).ownBlock ∨ (Value.slice p6 (C.length + 1) c6).ownBlock = some (w2.heap.size + 1))) := ⟨hbx,hbk,hf7,owns_kept h6 hba,h10.frm (G := none1) (Frm.of_below hba) (fun g hg => ⟨(World.ownsRow.lt h6 g hg).2,fun h => h⟩),hfg.size,h8⟩
 clear h6 h7 h8 h9 h10 hfg hba hf7 hbk hbx p0
 generalize (w6.alloc (.cells #[.slice p6 (C.length + 1) c6] 105)) = w7 at *
 go_wp2_with fail
 refine C4.out.mono ?_
 rintro e w8 ⟨rfl,hw⟩
 go_wp2_with fail
 go_end0
 obtain ⟨q1,q2,q3,q4,q5,q6,q7⟩ := HQ.out
 have hf8:Frm w7 (w7.setCell ⟨sb,1,none⟩ (ptr1 w6.heap.size)) (one1 sb) := frm_set w7 sb 1 _ (.inl rfl)
 have hsbn:∀ g,(Value.slice p6 (C.length + 1) c6).ownBlock = some g → ¬ one1 sb g := fun g hg e => by
  have e':g = sb := e
  rcases q7 with q7 | q7
  ·exact HS2.out.sb_pv (q7.symm.trans hg) e'
  ·rw [q7] at hg
   cases hg
   omega
 have hf28:Frm w2 (w7.setCell ⟨sb,1,none⟩ (ptr1 w6.heap.size)) (fun k => k = sb ∨ (Value.slice pp C.length cc).ownBlock = some k) := (q3.mono (fun k hk => .inl (.inr hk))).trans hf8 (fun k hk => .inl (.inl hk))
 have hst:∀ k,(k = sb ∨ (Value.slice pp C.length cc).ownBlock = some k) → stF sb dm (.slice pp C.length cc) tv C sv wo k := fun k hk => hk.elim .inl (fun e => .inr (.inr (.inl e)))
 have hi28:Imm w2 (w7.setCell ⟨sb,1,none⟩ (ptr1 w6.heap.size)) := Imm.of_frm hf28 (fun k hk => (HS2.out.mut (hst k hk)).1)
 have hncb:∀ k,stF sb dm (.slice pp C.length cc) tv C sv wo k → k ≠ w0.heap.size := fun k hk e => by
  have h1 := (HS.out.mut hk).2.2
  have h2 := HP2.out.2.2.1
  omega
 refine ⟨rfl,⟨w6.heap.size,.slice p6 (C.length + 1) c6,w0.heap.size,HS2.out.more (G := fun k => k = sb ∨ (Value.slice pp C.length cc).ownBlock = some k) hf28 (fun k hk => hk) (q2.set1 w6.heap.size) ?_ (owns_frm q4 hf8 hsbn) (q5.frm hf8 (fun g hg => ⟨(World.ownsRow.lt q4 g hg).2,hsbn g hg⟩)) (HP2.out.1.frm hf28 hi28 (fun e => hncb _ (hst _ e) rfl)) (Nat.le_trans HS.out.base (Nat.le_trans (Nat.le_of_lt HS.out.blk.lt) HP2.out.2.2.1)) (fun a ha => hncb _ (.inr (.inr (.inr (.inl ⟨a,ha,rfl⟩))))) hK,fun k hk => ?_⟩,(Frm.of_below (F := stF sb dm (.slice pp C.length cc) tv C sv wo) HP2.out.2.1).trans hf28 (fun k hk => .inl (hst k hk))⟩
 ·exact (hf8.block w6.heap.size (Array.getElem?_eq_some_iff.1 q1).1 (fun e => by
   have e':w6.heap.size = sb := e
   omega)).trans q1
 ·have hz2 := HP2.out.2.1.size
  rcases hk with h | h | h | ⟨a,ha,hak⟩ | h | h
  ·exact .inl (.inl h)
  ·exact .inl (.inr (.inl h))
  ·rcases q7 with q7 | q7
   ·exact .inl (.inr (.inr (.inl (q7.symm.trans h))))
   ·rw [q7] at h
    cases h
    exact .inr (by omega)
  ·rcases List.mem_append.1 ha with ha | ha
   ·exact .inl (.inr (.inr (.inr (.inl ⟨a,ha,hak⟩))))
   ·rw [List.mem_singleton] at ha
    subst ha
    exact .inr (by rw [← hak]; exact HP2.out.2.2.1)
  ·exact .inl (.inr (.inr (.inr (.inr (.inl h)))))
  ·exact .inl (.inr (.inr (.inr (.inr (.inr h)))))
end

end Go.Proofs.YtcibcfghkidncaaGreatDoor

namespace Go.Proofs.YtcibcfghkidncaaGreatDoor
open Go.RowKit Go.Lib Go.Maps
set_option maxRecDepth 100000

def onX (T:List Nat) (s:Nat):List Nat := if s / 64 < T.length then onT T s else onT (T ++ [0]) s
theorem onX_bit {T:List Nat} {s:Nat} (hs:s / 64 ≤ T.length) (j:Nat):bitT (onX T s) j = (decide (j = s) || bitT T j) := by
 unfold onX
 split
 ·rename_i h
  exact onT_bit h j
 ·rw [onT_bit (by rw [List.length_append,List.length_singleton]; omega),bitT_app]
theorem onX_tw {T:List Nat} {s:Nat} (h:∀ x ∈ T,x < 18446744073709551616):∀ x ∈ onX T s,x < 18446744073709551616 := by
 unfold onX
 split
 ·exact onT_tw h
 ·refine onT_tw (fun x hx => ?_)
  rcases List.mem_append.1 hx with hx | hx
  ·exact h x hx
  ·rw [List.mem_singleton] at hx
   omega
theorem onX_len {T:List Nat} {s:Nat} (_hs:s / 64 ≤ T.length):(onX T s).length = if s / 64 < T.length then T.length else T.length + 1 := by
 unfold onX
 split
 ·simp [onT]
 ·simp [onT]
def addM (M:List Rs) (s:Nat) (r:Rs):List Rs := if s < M.length then M.set s r else M ++ [r]
theorem addM_at {M:List Rs} {s:Nat} (hs:s ≤ M.length) (r:Rs) (j:Nat):(addM M s r)[j]? = if j = s then some r else M[j]? := by
 unfold addM
 split
 ·rename_i h
  by_cases e:j = s
  ·subst e
   rw [if_pos rfl,List.getElem?_set_self h]
  ·rw [if_neg e,List.getElem?_set_ne (fun h => e h.symm)]
 ·have e2:s = M.length := by omega
  subst e2
  rw [List.getElem?_append]
  by_cases e:j = M.length
  ·subst e
   simp
  ·rw [if_neg e]
   split
   ·rfl
   ·rename_i h
    rw [List.getElem?_eq_none (by simp; omega),List.getElem?_eq_none (by omega)]
theorem addM_len {M:List Rs} {s:Nat} (_hs:s ≤ M.length) (r:Rs):(addM M s r).length = if s < M.length then M.length else M.length + 1 := by
 unfold addM
 split
 ·simp
 ·simp
theorem InvT.take {J most:Nat} {M:List Rs} {T:List Nat} (h:InvT J most M T) {s:Nat} (hs:s ≤ M.length) (hm:s < most) {r:Rs} (hr:OkR J r) (ht:thr r = true):InvT J most (addM M s r) (onX T s) := by
 have hsT:s / 64 ≤ T.length := by rw [h.tl]; omega
 refine ⟨fun x hx => ?_,?_,h.mst,fun j => ?_,?_,onX_tw h.tw⟩
 ·obtain ⟨j,hj⟩ := List.mem_iff_getElem?.1 hx
  rw [addM_at hs] at hj
  split at hj
  ·cases hj
   exact hr
  ·exact h.ok x (List.mem_of_getElem? hj)
 ·rw [addM_len hs]
  have := h.len
  split <;> omega
 ·rw [onX_bit hsT,h.bit j]
  unfold thrAt
  rw [addM_at hs]
  by_cases e:j = s
  ·simp [e,ht]
  ·simp [e]
 ·rw [onX_len hsT,addM_len hs,h.tl]
  have := h.tl
  split <;> split <;> omega
section
variable {B sb most pb:Nat} {ls:Int} {dl:Nat → Int} {dm:Nat → Option Nat} {pv tv:Value} {C:List (Nat × Nat)} {T:List Nat} {sv:Int → Value} {wo:Int → List Nat} {M:List Rs} {K:Nat} {w w':World}
theorem StX.tkn2 {tv':Value} {T':List Nat} (h:StX w B sb most pb ls dl dm pv tv C T sv wo M K) (hf:Frm w w' (fun k => k = sb ∨ tv.ownBlock = some k)) (hs:SBk w' sb most pb ls tv' dl dm) (ho:OwnT w' B tv' T') (hb:NB w' tv'):StX w' B sb most pb ls dl dm pv tv' C T' sv wo M K := by
 have hi:Imm w w' := Imm.of_frm hf (fun k hk => (h.mut (hk.elim .inl (fun e => .inr (.inl e)))).1)
 exact ⟨hs,h.base,ho,h.plc.frm hf hi (fun g hg e => e.elim (h.sb_pv hg) (fun e => h.tv_pv e hg rfl)) (fun c hc e => e.elim (h.sb_cel hc) (fun e => h.cel_tv hc e rfl)),h.dsk.frm hf (fun d mb hd hm e => e.elim (h.sb_map hd hm) (fun e => h.tv_map e hd hm rfl)) (fun t g ht hg e => e.elim (h.sb_sv ht hg) (fun e => h.tv_sv e ht hg rfl)),hb⟩
theorem with_all (T:List Nat) (v:Value) (B s:Nat) (w:World) (h:OwnT w B v T) (hN:NB w v) (hx:∀ x ∈ T,x < 18446744073709551616) (hs:s / 64 ≤ T.length) (hl:T.length ≤ 1024) (hB:B ≤ w.heap.size) :
  Calls Tryz.prog 96 #[v,.int .i64 (s:Nat)] w fun e w' => (∃ v',e = .returned v' ∧ OwnT w' B v' (onX T s) ∧ NB w' v' ∧ (v'.ownBlock = v.ownBlock ∨ ∃ g,v'.ownBlock = some g ∧ w.heap.size ≤ g)) ∧ Frm w w' (fun k => v.ownBlock = some k) := by
 unfold onX
 by_cases hlt:s / 64 < T.length
 ·rw [if_pos hlt]
  refine (with_old T v B s w h hN hx hlt hl).mono ?_
  rintro e w' ⟨rfl,a,b,c⟩
  exact ⟨⟨v,rfl,a,b,.inl rfl⟩,c⟩
 ·rw [if_neg hlt]
  exact with_new T v B s w h hN (by omega) hl hB
end

end Go.Proofs.YtcibcfghkidncaaGreatDoor

namespace Go.Proofs.YtcibcfghkidncaaGreatDoor

def docL (M:List Rs):List (Nat × Rs) := (slM M).map fun x => (x,M.getD x nilR)
theorem slM_rise (M:List Rs):(slM M).Pairwise (· < ·) := List.Pairwise.filter _ List.pairwise_lt_range
theorem rise_ext:∀ {A B:List Nat},A.Pairwise (· < ·) → B.Pairwise (· < ·) → (∀ x,x ∈ A ↔ x ∈ B) → A = B
 | [],[],_,_,_ => rfl
 | [],b :: B,_,_,h => by
  have := (h b).2 List.mem_cons_self
  cases this
 | a :: A,[],_,_,h => by
  have := (h a).1 List.mem_cons_self
  cases this
 | a :: A,b :: B,hA,hB,h => by
  rw [List.pairwise_cons] at hA hB
  have e:a = b := by
   rcases List.mem_cons.1 ((h a).1 List.mem_cons_self) with e | e
   ·exact e
   ·rcases List.mem_cons.1 ((h b).2 List.mem_cons_self) with e2 | e2
    ·exact e2.symm
    ·have h1 := hB.1 a e
     have h2 := hA.1 b e2
     omega
  subst e
  rw [rise_ext hA.2 hB.2 (fun x => ?_)]
  constructor
  ·intro hx
   rcases List.mem_cons.1 ((h x).1 (List.mem_cons_of_mem _ hx)) with e | e
   ·have := hA.1 x hx
    omega
   ·exact e
  ·intro hx
   rcases List.mem_cons.1 ((h x).2 (List.mem_cons_of_mem _ hx)) with e | e
   ·have := hB.1 x hx
    omega
   ·exact e
theorem thrAt_getD (M:List Rs) (j:Nat):thrAt M j = thr (M.getD j nilR) := by
 unfold thrAt
 rw [List.getD_eq_getElem?_getD]
 cases M[j]? with
 | none => rfl
 | some r => rfl
theorem slM_map {f:Rs → Rs} {M:List Rs} (hf:∀ r ∈ M,thr r = false → thr (f r) = false):slM (M.map f) = (slM M).filter (fun x => thr (f (M.getD x nilR))) := by
 unfold slM
 rw [List.length_map,List.filter_filter]
 apply List.filter_congr
 intro j hj
 rw [List.mem_range] at hj
 unfold thrAt
 rw [List.getElem?_map,List.getD_eq_getElem?_getD,List.getElem?_eq_getElem hj]
 simp only [Option.map_some,Option.getD_some]
 cases e:thr M[j] with
 | true => simp
 | false => simp [hf _ (List.getElem_mem hj) e]
theorem docL_map {f:Rs → Rs} {M:List Rs} (hf:∀ r ∈ M,thr r = false → thr (f r) = false):docL (M.map f) = ((docL M).map (fun p => (p.1,f p.2))).filter (fun p => thr p.2) := by
 unfold docL
 rw [slM_map hf,List.map_map,List.filter_map]
 apply List.map_congr_left
 intro x hx
 have hm := (List.mem_filter.1 hx).1
 obtain ⟨r,hr,_⟩ := mem_slM.1 hm
 show (x,(M.map f).getD x nilR) = (x,f (M.getD x nilR))
 rw [List.getD_eq_getElem?_getD,List.getD_eq_getElem?_getD,List.getElem?_map,hr]
 rfl
theorem docL_slots (M:List Rs):(docL M).map Prod.fst = slM M := by
 unfold docL
 rw [List.map_map]
 exact List.map_id _
theorem docL_len (M:List Rs):(docL M).length ≤ M.length := by
 unfold docL
 rw [List.length_map]
 exact slM_len M
theorem back_gone {J:Nat} {M:List Rs} (_hM:∀ r ∈ M,OkR J r) {t s:Int} {G:List Nat} (hG:G.Pairwise (· < ·)) (hm:∀ x,x ∈ G ↔ t ≠ 0 ∧ ∃ r,M[x]? = some r ∧ r.tx = t ∧ thr (bakR s r) = false) :
  G = (((docL M).map (fun p => (p.1,if p.2.tx = t ∧ t ≠ 0 then bakR s p.2 else p.2))).filter (fun p => !thr p.2)).map Prod.fst := by
 have e:(((docL M).map (fun p => (p.1,if p.2.tx = t ∧ t ≠ 0 then bakR s p.2 else p.2))).filter (fun p => !thr p.2)).map Prod.fst = (slM M).filter (fun x => !thr (if (M.getD x nilR).tx = t ∧ t ≠ 0 then bakR s (M.getD x nilR) else M.getD x nilR)) := by
  unfold docL
  rw [List.map_map,List.filter_map,List.map_map]
  exact List.map_id _
 rw [e]
 refine rise_ext hG (List.Pairwise.filter _ (slM_rise M)) (fun x => ?_)
 rw [hm x,List.mem_filter,mem_slM]
 constructor
 ·rintro ⟨h0,r,hr,ht,hg⟩
  have hd:M.getD x nilR = r := by rw [List.getD_eq_getElem?_getD,hr]; rfl
  refine ⟨⟨r,hr,tx_thr (by rw [ht]; exact h0)⟩,?_⟩
  rw [hd,if_pos ⟨ht,h0⟩,hg]
  rfl
 ·rintro ⟨⟨r,hr,hth⟩,hg⟩
  have hd:M.getD x nilR = r := by rw [List.getD_eq_getElem?_getD,hr]; rfl
  rw [hd] at hg
  by_cases c:r.tx = t ∧ t ≠ 0
  ·rw [if_pos c] at hg
   exact ⟨c.2,r,hr,c.1,by simpa using hg⟩
  ·rw [if_neg c,hth] at hg
   cases hg

end Go.Proofs.YtcibcfghkidncaaGreatDoor

namespace Go.Proofs.YtcibcfghkidncaaGreatDoor
open Go.RowKit Go.Lib
set_option maxRecDepth 100000

def rw4 (z:(Nat × Rs) × (Value × Value)):List Value := [.int .i64 (z.1.1:Nat),z.2.1,.int .i64 z.1.2.tx,z.2.2]
theorem flat4_at:∀ (Z:List ((Nat × Rs) × (Value × Value))) (i j:Nat) (hi:i < Z.length),j < 4 → (Z.flatMap rw4)[i * 4 + j]? = (rw4 Z[i])[j]?
 | z :: Z,0,j,_,hj => by
  rw [List.flatMap_cons,Nat.zero_mul,Nat.zero_add,List.getElem?_append_left (by simpa [rw4] using hj)]
  rfl
 | z :: Z,i + 1,j,hi,hj => by
  have hl:(rw4 z).length = 4 := rfl
  rw [List.flatMap_cons,List.getElem?_append_right (by rw [hl]; omega),hl,show (i + 1) * 4 + j - 4 = i * 4 + j by omega]
  exact flat4_at Z i j (by simpa using hi) hj
def SlR (k:IntKind) (w:World) (v:Value) (L:List Rw):Prop := ∃ p c,v = .slice p L.length c ∧ RdR k w w.heap.size p L ∧ (k = .u64 → p = none → c = 0)
theorem SlR.imm {k:IntKind} {w w':World} {v:Value} {L:List Rw} (h:SlR k w v L) (hi:Imm w w'):SlR k w' v L := by
 obtain ⟨p,c,e,h,hn⟩ := h
 exact ⟨p,c,e,h.imm hi,hn⟩
theorem SlR.nil (k:IntKind) (w:World):SlR k w (.slice none 0 0) [] := ⟨none,0,rfl,RdR.nil _ _ _,fun _ _ => rfl⟩
def DocS (w:World) (B:Nat) (v:Value) (L:List (Nat × Rs)):Prop := ∃ Z:List ((Nat × Rs) × (Value × Value)),Z.map Prod.fst = L ∧ w.ownsRow B 77 4 v Z.length (Z.flatMap rw4) ∧ ∀ z ∈ Z,SlR .u64 w z.2.1 z.1.2.L ∧ SlR .i64 w z.2.2 z.1.2.W
theorem DocS.nil (w:World) (B:Nat):DocS w B (.slice none 0 0) [] := ⟨[],rfl,World.ownsRow_nil _ _ _ _,fun z hz => by simp at hz⟩
theorem DocS.len {w:World} {B:Nat} {v:Value} {L:List (Nat × Rs)} (h:DocS w B v L):∃ p c,v = .slice p L.length c ∧ L.length ≤ c := by
 obtain ⟨Z,rfl,ho,_⟩ := h
 rw [List.length_map]
 exact owns_len ho
theorem DocS.on {w w':World} {B:Nat} {v:Value} {L:List (Nat × Rs)} (h:DocS w B v L) (hb:Below w.heap.size w w'):DocS w' B v L := by
 obtain ⟨Z,e,ho,hz⟩ := h
 exact ⟨Z,e,owns_kept ho hb,fun z hm => ⟨(hz z hm).1.imm (Imm.of_below hb),(hz z hm).2.imm (Imm.of_below hb)⟩⟩
theorem DocS.at {w:World} {B:Nat} {v:Value} {L:List (Nat × Rs)} (h:DocS w B v L) {i:Nat} (hi:i < L.length):∃ g c vl vw,v = .slice (some ⟨g,0,none⟩) L.length c ∧ g < w.heap.size ∧ w.cell? ⟨g,i * 4,none⟩ = some (.int .i64 (L[i].1:Nat)) ∧ w.cell? ⟨g,i * 4 + 1,none⟩ = some vl ∧ w.cell? ⟨g,i * 4 + 2,none⟩ = some (.int .i64 L[i].2.tx) ∧ w.cell? ⟨g,i * 4 + 3,none⟩ = some vw ∧ SlR .u64 w vl L[i].2.L ∧ SlR .i64 w vw L[i].2.W := by
 obtain ⟨Z,rfl,ho,hz⟩ := h
 rw [List.length_map] at hi
 obtain ⟨g,cap,e,_,hg⟩ := owns_form ho (by omega)
 subst e
 have hc:∀ j,j < 4 → w.cell? ⟨g,i * 4 + j,none⟩ = (rw4 Z[i])[j]? := fun j hj => by
  rw [World.ownsRow.cellAt ho (i * 4 + j) (by omega),flat4_at Z i j hi hj]
 have hq := hz Z[i] (List.getElem_mem hi)
 refine ⟨g,cap,Z[i].2.1,Z[i].2.2,by rw [List.length_map],hg,?_,?_,?_,?_,?_,?_⟩
 ·have := hc 0 (by decide); rw [List.getElem_map]; exact this
 ·exact hc 1 (by decide)
 ·have := hc 2 (by decide); rw [List.getElem_map]; exact this
 ·exact hc 3 (by decide)
 ·rw [List.getElem_map]; exact hq.1
 ·rw [List.getElem_map]; exact hq.2
set_option maxHeartbeats 2000000 in
theorem find_any (B most:Nat) (v:Value) (L:List (Nat × Rs)) (s:Int) (w:World) (h:DocS w B v L) (hl:L.length ≤ 65536) :
  Calls Tryz.prog 68 #[.agg #[.int .i64 (most:Nat),v],.int .i64 s] w fun e w' => (∃ r:Int,e = .returned (.int .i64 r) ∧ ((r = -1 ∧ ∀ p ∈ L,(p.1:Int) ≠ s) ∨ ∃ (i:Nat) (q:Nat × Rs),L[i]? = some q ∧ r = (i:Int) ∧ (q.1:Int) = s)) ∧ Below w.heap.size w w' := by
 obtain ⟨p,c,rfl,_⟩ := h.len
 have HB:Hid (Below w.heap.size w (w.alloc (.cells #[.int .i64 (most:Nat),.slice p L.length c] 29))) := (Below.refl _ _).alloc (Nat.le_refl _) _
 have HD:Hid (DocS (w.alloc (.cells #[.int .i64 (most:Nat),.slice p L.length c] 29)) B (.slice p L.length c) L) := h.on HB.out
 have x1:(w.alloc (.cells #[.int .i64 (most:Nat),.slice p L.length c] 29)).cell? ⟨w.heap.size,1,none⟩ = some (.slice p L.length c) := by
  rw [World.cell?_alloc_new]
  rfl
 clear h
 obtain ⟨n,hn⟩:∃ n,L.length = n := ⟨_,rfl⟩
 rw [hn] at x1 HD HB hl
 rw [hn]
 go_enter Tryz.func68,Tryz.ntmps68
 go_upto_region 1 with fail
 generalize (w.alloc (.cells #[.int .i64 (most:Nat),.slice p n c] 29)) = w0 at *
 go_wp2_with fail
 go_loopw [5] (fun i wq => ∃ j:Nat,j ≤ n ∧ i = .int .i64 (j:Int) ∧ wq = w0 ∧ Hid (∀ p ∈ L.take j,(p.1:Int) ≠ s)) (fun i _ => n - (intOf i).toNat)
 case atStart => exact ⟨0,Nat.zero_le _,by go_num,rfl,fun p hp => by simp at hp⟩
 case round =>
  obtain ⟨j,hj,rfl,hw,hno⟩ := hrel
  rw [hw]
  clear hw
  by_cases hj0:j = n
  ·subst hj0
   go_wp2_with fail
   go_ret
   exact ⟨⟨-1,rfl,.inl ⟨rfl,fun p hp => hno.out p (by rw [← hn,List.take_length]; exact hp)⟩⟩,HB.out⟩
  ·have hj1:j < L.length := by omega
   have hjn:j < n := by omega
   have hd := HD.out
   rw [← hn] at hd
   obtain ⟨g,c',vl,vw,e,hg,a0,_⟩ := hd.at hj1
   injection e with e1 e2 e3
   subst e1
   clear e2 e3 hd
   by_cases hs:(L[j].1:Int) = s
   ·have hb:(((L[j].1:Nat):Int) == s) = true := by simp [hs]
    have HS:Hid (L[j]? = some L[j] ∧ (L[j].1:Int) = s) := ⟨List.getElem?_eq_getElem hj1,hs⟩
    clear hs
    generalize L[j] = y at *
    go_wp2_with fail
    go_ret
    exact ⟨⟨j,rfl,.inr ⟨j,_,HS.out.1,rfl,HS.out.2⟩⟩,HB.out⟩
   ·have hb:(((L[j].1:Nat):Int) == s) = false := by simp [hs]
    have HNo:Hid (∀ p ∈ L.take (j + 1),(p.1:Int) ≠ s) := fun p hp => by
     rw [List.take_add_one,List.getElem?_eq_getElem hj1] at hp
     rcases List.mem_append.1 hp with hp | hp
     ·exact hno.out p hp
     ·simp at hp
      rw [hp]
      exact hs
    clear hs
    generalize L[j] = y at *
    go_wp2_with fail
    go_roundw
    case rel => exact ⟨j + 1,by omega,by go_num,by simp,HNo⟩
    case measure => simp [intOf]; omega

end Go.Proofs.YtcibcfghkidncaaGreatDoor
