/- Walks of a store: Read, Versions, Intent, Slots. Walks of a store: push. Walks of a store: push of a row that is there no more; turn. Walks of a store: turn. -/
import Derived.Conc.Holds
import Derived.Test.YtcibcfghkidncaaGreatDoorGWSto1
import Derived.Test.YtcibcfghkidncaaGreatDoorGWCpy
import Derived.Test.YtcibcfghkidncaaGreatDoorGMSto2
namespace Go.Proofs.YtcibcfghkidncaaGreatDoor
open Go.RowKit Go.Lib Go.Maps
set_option maxRecDepth 100000

theorem OkR.get {M:List Rs} {K:Nat} (h:∀ r ∈ M,OkR K r) (s:Int):OkR K (getR M s) := by
 unfold getR
 split
 ·exact OkR.nil K
 ·rw [List.getD_eq_getElem?_getD]
  cases e:M[s.toNat]? with
  | none => exact OkR.nil K
  | some r => exact h r (List.mem_of_getElem? e)
theorem field_in (p:Option Addr) (t:Int) (q:Option Addr) (n c:Nat) (w:World):(Instr.field 125 (.agg #[.pointer p,.int .i64 t,.slice q n c]) 1).run Tryz.prog w = .ok (.agg #[.int .i64 t,.slice q n c]) w := by kernel_rfl
section
variable {B sb most pb:Nat} {ls:Int} {dl:Nat → Int} {dm:Nat → Option Nat} {pv tv:Value} {C:List (Nat × Nat)} {T:List Nat} {sv:Int → Value} {wr:Int → List Nat} {M:List Rs} {K:Nat}

set_option maxHeartbeats 1000000 in
theorem read_any (s txn st:Int) (w:World) (h:StX w B sb most pb ls dl dm pv tv C T sv wr M K) (hl:C.length ≤ 65536) (J:Nat) (hM:∀ r ∈ M,OkR J r) (hK:J ≤ 3518437208882) :
  Calls Tryz.prog 15 #[ptr1 sb,.int .i64 s,.int .i64 txn,.int .u64 st] w fun e w' => (∃ v',e = .returned (.tuple #[v',.bool (shwB (seeR (getR M s).L (getR M s).W (getR M s).tx txn st))]) ∧ OwnV w' w.heap.size v' (shwL (seeR (getR M s).L (getR M s).W (getR M s).tx txn st))) ∧ Below w.heap.size w w' := by
 have C1:Hid (Calls _ _ _ _ _) := state_any s w h hl
 have HO:Hid (OkR J (getR M s)) := OkR.get hM s
 clear h hM
 generalize getR M s = r at *
 go_enter Tryz.func15,Tryz.ntmps15
 go_wp2_with fail
 refine C1.out.mono ?_
 rintro e w1 ⟨⟨v1,rfl,p,q,c,rfl,hs1⟩,hb1⟩
 have C2:Hid (Calls _ _ _ _ _) := see_st p q c J r txn st w1 hs1 HO.out hK
 have HB1:Hid (Below w.heap.size w w1) := hb1
 clear hs1 hb1 C1
 go_wp2_with fail
 refine C2.out.mono ?_
 rintro e w2 ⟨⟨v2,rfl,hv2⟩,hb2⟩
 go_wp2_with fail
 go_ret2
 exact ⟨⟨_,rfl,hv2.base HB1.out.size⟩,HB1.out.trans (hb2.mono HB1.out.size)⟩

set_option maxHeartbeats 1000000 in
theorem versionsS_any (s:Int) (w:World) (h:StX w B sb most pb ls dl dm pv tv C T sv wr M K) (hl:C.length ≤ 65536) (J:Nat) (hM:∀ r ∈ M,OkR J r) (hK:J ≤ 3518437208882) :
  Calls Tryz.prog 25 #[ptr1 sb,.int .i64 s] w fun e w' => (∃ v Z,e = .returned v ∧ Z.map Prod.fst = (getR M s).L ∧ OwnRs .u64 81 w' w.heap.size v Z) ∧ Below w.heap.size w w' := by
 have C1:Hid (Calls _ _ _ _ _) := state_any s w h hl
 have HO:Hid (OkR J (getR M s)) := OkR.get hM s
 clear h hM
 generalize getR M s = r at *
 go_enter Tryz.func25,Tryz.ntmps25
 go_wp2_with fail
 refine C1.out.mono ?_
 rintro e w1 ⟨⟨v1,rfl,p,q,c,rfl,hs1⟩,hb1⟩
 have C2:Hid (Calls _ _ _ _ _) := versions_any p q r.W.length c J r.tx r.L w1 hs1.pst HO.out.nL hK
 have HB1:Hid (Below w.heap.size w w1) := hb1
 clear hs1 hb1 C1
 go_wp2_with fail
 refine C2.out.mono ?_
 rintro e w2 ⟨⟨v2,Z2,rfl,hZ2,hO2⟩,hb2⟩
 obtain ⟨p2,c2,rfl,-,hR2⟩ := hO2.rd hb2.size hZ2
 have C3:Hid (Calls _ _ _ _ _) := ownVersions_any r.L p2 c2 J w2 hR2 HO.out.nL hK HO.out.sL
 have HB2:Hid (Below w.heap.size w w2) := HB1.out.trans (hb2.mono HB1.out.size)
 clear hZ2 hO2 hb2 hR2 C2
 go_wp2_with fail
 refine C3.out.mono ?_
 rintro e w3 ⟨⟨v3,Z3,rfl,hZ3,hO3⟩,hb3⟩
 go_wp2_with fail
 go_ret
 exact ⟨⟨_,Z3,rfl,hZ3,hO3.base HB2.out.size⟩,HB2.out.trans (hb3.mono HB2.out.size)⟩

set_option maxHeartbeats 1000000 in
theorem intentS_any (s:Int) (w:World) (h:StX w B sb most pb ls dl dm pv tv C T sv wr M K) (hl:C.length ≤ 65536) (J:Nat) (hM:∀ r ∈ M,OkR J r) (hK:J ≤ 3518437208882) :
  Calls Tryz.prog 26 #[ptr1 sb,.int .i64 s] w fun e w' => (∃ v Z,e = .returned (.agg #[.int .i64 (getR M s).tx,v]) ∧ Z.map Prod.fst = (getR M s).W ∧ OwnRs .i64 38 w' w.heap.size v Z) ∧ Below w.heap.size w w' := by
 obtain ⟨hX,hB,hS⟩ := one_new w #[.int .i64 0,.slice none 0 0] 75
 have C1:Hid (Calls _ _ _ _ _) := state_any s (w.alloc (.cells #[.int .i64 0,.slice none 0 0] 75)) (h.on hB) hl
 have HO:Hid (OkR J (getR M s)) := OkR.get hM s
 have HX:Hid (Box (w.alloc (.cells #[.int .i64 0,.slice none 0 0] 75)) w.heap.size #[.int .i64 0,.slice none 0 0] 75 ∧ Below w.heap.size w (w.alloc (.cells #[.int .i64 0,.slice none 0 0] 75)) ∧ (w.alloc (.cells #[.int .i64 0,.slice none 0 0] 75)).heap.size = w.heap.size + 1) := ⟨hX,hB,hS⟩
 clear h hM hX hB hS
 generalize getR M s = r at *
 go_enter Tryz.func26,Tryz.ntmps26
 go_wp2_with fail
 generalize (w.alloc (.cells #[.int .i64 0,.slice none 0 0] 75)) = w0 at *
 refine C1.out.mono ?_
 rintro e w1 ⟨⟨v1,rfl,p,q,c,rfl,hs1⟩,hb1⟩
 have C2:Hid (Calls _ _ _ _ _) := ownIntent_any r.tx r.W q c J w1 hs1.rd HO.out.nW hK HO.out.sW
 have HB1:Hid (Below w.heap.size w w1) := HX.out.2.1.trans (hb1.mono HX.out.2.1.size)
 have HX1:Hid (Box w1 w.heap.size #[.int .i64 0,.slice none 0 0] 75) := HX.out.1.on hb1
 have h1s:w.heap.size + 1 ≤ w1.heap.size := by rw [← HX.out.2.2]; exact hb1.size
 have hfl := field_in p r.tx q r.W.length c w1
 clear hs1 hb1 C1 HX
 go_wp2_with fail
 refine C2.out.mono ?_
 rintro e w2 ⟨⟨v2,Z2,rfl,hZ2,hO2⟩,hb2⟩
 obtain ⟨q2,c2,rfl,_,_⟩ := hO2.st hZ2
 have HB2:Hid (Below w.heap.size w w2) := HB1.out.trans (hb2.mono HB1.out.size)
 have HX2:Hid (Box w2 w.heap.size #[.int .i64 0,.slice none 0 0] 75) := HX1.out.on hb2
 have HO2:Hid (OwnRs .i64 38 w2 (w.heap.size + 1) (.slice q2 r.W.length c2) Z2 ∧ Z2.map Prod.fst = r.W) := ⟨hO2.base h1s,hZ2⟩
 obtain ⟨y0,y1,y2,y3⟩ := box2 HX2.out
 clear hO2 hZ2 hb2 C2 HX1 hfl
 generalize hwl:r.W.length = n at *
 generalize htx:r.tx = tx at *
 go_wp2_with fail
 have hZ9 := (HX2.out.set (i := 0) (.int .i64 tx)).set (i := 1) (.slice q2 n c2)
 have hO9 := (HO2.out.1.off (i := 0) (.int .i64 tx) (show w.heap.size < w.heap.size + 1 by omega)).off (i := 1) (.slice q2 n c2) (show w.heap.size < w.heap.size + 1 by omega)
 have hb9 := (HB2.out.setCell (p := ⟨w.heap.size,0,none⟩) (Nat.le_refl _) (.int .i64 tx)).setCell (p := ⟨w.heap.size,1,none⟩) (Nat.le_refl _) (.slice q2 n c2)
 generalize (w2.setCell ⟨w.heap.size,0,none⟩ (.int .i64 tx)).setCell ⟨w.heap.size,1,none⟩ (.slice q2 n c2) = w9 at *
 obtain ⟨z0,z1,_⟩ := box2 hZ9
 (try simp only [Exit.inBlock,Exit.then])
 refine bodyPost_ret (v := .agg #[.int .i64 tx,.slice q2 n c2]) (by simp [results,Tryz.results26,go_sem,z0,z1]) rfl ?_
 exact ⟨⟨_,Z2,by rw [htx],HO2.out.2,hO9.base (by omega)⟩,hb9⟩

set_option maxHeartbeats 1000000 in
theorem slots_any (w:World) (h:StX w B sb most pb 0 dl dm pv tv C T sv wr M K) (hT:Tab w) (hx:∀ x ∈ T,x < 18446744073709551616) (hl:T.length ≤ 1024) (hg : 1 < B) :
  Calls Tryz.prog 29 #[ptr1 sb] w fun e w' => (∃ v,e = .returned v ∧ OwnI w' w.heap.size v (slotsT T (T.length * 64))) ∧ StX w' B sb most pb 0 dl dm pv tv C T sv wr M K ∧ Frm w w' (one1 sb) := by
 have C1:Hid (Calls _ _ _ _ _) := lockS w h
 have HB:Hid (B ≤ sb ∧ sb < w.heap.size) := ⟨h.base,h.blk.lt⟩
 have HT:Hid (Tab w ∧ ∀ x ∈ T,x < 18446744073709551616) := ⟨hT,hx⟩
 clear h hT hx
 go_enter_defers Tryz.func29,Tryz.ntmps29
 go_wp2_with fail
 refine C1.out.mono ?_
 rintro e w1 ⟨rfl,hs1,hf1⟩
 have hT1:Tab w1 := HT.out.1.keep (hf1.below (B := B) (Nat.le_trans HB.out.1 (Nat.le_of_lt HB.out.2)) (fun k hk => by rw [hk]; exact HB.out.1)) hg
 have C2:Hid (Calls _ _ _ _ _) := all_any T tv B w1 hs1.tak hT1 HT.out.2 hl (Nat.lt_of_lt_of_le hg (Nat.le_trans HB.out.1 (Nat.le_trans (Nat.le_of_lt HB.out.2) hf1.size)))
 have c4 := hs1.blk.cell.1.2.2.2
 have HS1:Hid (StX w1 B sb most pb 1 dl dm pv tv C T sv wr M K ∧ Frm w w1 (one1 sb)) := ⟨hs1,hf1⟩
 obtain ⟨pt,ct,rfl,_⟩ := owns_len hs1.tak
 clear C1 hs1 hf1 hT1
 go_wp2_with fail
 refine C2.out.mono ?_
 rintro e w2 ⟨⟨v2,rfl,hv2⟩,hb2⟩
 have HS2:Hid (StX w2 B sb most pb 1 dl dm pv (.slice pt T.length ct) C T sv wr M K) := HS1.out.1.on hb2
 have HV2:Hid (OwnI w2 w1.heap.size v2 (slotsT T (T.length * 64))) := hv2
 have HB2:Hid (Below w1.heap.size w1 w2) := hb2
 obtain ⟨p2,c2,rfl,_⟩ := owns_len hv2
 clear hv2 hb2 C2 c4
 go_wp2_with fail
 refine leaves_cons (f := 48) (args := #[.pointer (some ⟨sb,2,none⟩)]) (by simp) (by simp [go_sem]) ?_
 refine (unlockS .returning w2 HS2.out).mono ?_
 rintro e u' w3 ⟨rfl,rfl,hs3,hf3⟩
 have hne:∀ g,(Value.slice p2 (slotsT T (T.length * 64)).length c2).ownBlock = some g → ¬ one1 sb g := fun g hg e => by
  have := (World.ownsRow.lt HV2.out g hg).1
  have := HS1.out.2.size
  have := HB.out.2
  have e':g = sb := e
  omega
 have hfin:OwnI w3 w.heap.size (.slice p2 (slotsT T (T.length * 64)).length c2) (slotsT T (T.length * 64)) := owns_base (owns_frm HV2.out hf3 hne) HS1.out.2.size
 refine ⟨_,results_tmp (t := 2) rfl _ _ _,?_⟩
 exact ⟨⟨_,rfl,hfin⟩,hs3,(HS1.out.2.trans (Frm.of_below (F := one1 sb) HB2.out) (fun k hk => .inl hk)).trans hf3 (fun k hk => .inl hk)⟩
end

end Go.Proofs.YtcibcfghkidncaaGreatDoor

namespace Go.Proofs.YtcibcfghkidncaaGreatDoor
open Go.RowKit Go.Lib Go.Maps
set_option maxRecDepth 100000

theorem PlcN.of {w:World} {cb g n:Nat} {p q:Option Addr} {c:Nat} {r:Rs} (h1:CelB w cb (some ⟨g,0,none⟩)) (h2:w.heap[g]? = some (itO p r.tx q r.W.length c n 1 none)) (h3:StR w p q c r):PlcN w cb n r := ⟨g,p,q,c,h1,h2,h3⟩
section
variable {B sb most pb:Nat} {dl:Nat → Int} {dm:Nat → Option Nat} {pv tv:Value} {C:List (Nat × Nat)} {T:List Nat} {sv:Int → Value} {wr:Int → List Nat} {M:List Rs} {K:Nat}

theorem putS {ls:Int} (i cb m:Nat) (p q:Option Addr) (c:Nat) (r:Rs) (w:World) (h:StX w B sb most pb ls dl dm pv tv C T sv wr M K) (hc:C[i]? = some (cb,m)) (hs:StR w p q c r) (hm:m + 1 ≤ K) (hK:K ≤ 9000000000000000000) :
  Calls Tryz.prog 98 #[ptr1 cb,.int .u64 (m:Nat),stV p q c r] w fun e w' => e = .returned (.bool true) ∧ StX w' B sb most pb ls dl dm pv tv (C.set i (cb,m + 1)) T sv wr (M.set i r) K ∧ Frm w w' (one1 cb) := by
 have hil:i < C.length := (List.getElem?_eq_some_iff.1 hc).1
 have him:i < M.length := by rw [← h.plc.len]; exact hil
 obtain ⟨-,g0,p0,q0,c0,h1,h2,-⟩ := h.plc.cel i cb m M[i] hc (List.getElem?_eq_getElem him)
 have hmut:MutB w cb := h1.mut
 refine (cput_any cb g0 m p0 M[i].tx q0 M[i].W.length c0 none p r.tx q r.W.length c w h1 h2 (by omega)).mono ?_
 rintro e w' ⟨rfl,⟨g,hg,hcb,hit⟩,hf⟩
 have hi:Imm w w' := Imm.of_frm hf (fun k hk => by rw [hk]; exact hmut)
 exact ⟨rfl,h.cel hc hf (PlcN.of hcb hit (hs.imm hi)) hm,hf⟩

set_option maxHeartbeats 2000000 in
theorem push_on (i cb m:Nat) (p q:Option Addr) (c:Nat) (r:Rs) (w:World) (h:StX w B sb most pb 0 dl dm pv tv C T sv wr M K) (hc:C[i]? = some (cb,m)) (hs:StR w p q c r) (hm:m + 1 ≤ K) (hK:K ≤ 9000000000000000000) (hl:C.length ≤ 65536) (ht:thr r = true) :
  Calls Tryz.prog 87 #[ptr1 sb,.int .i64 (i:Nat),.int .u64 (m:Nat),stV p q c r] w fun e w' => e = .returned (.bool true) ∧ StX w' B sb most pb 0 dl dm pv tv (C.set i (cb,m + 1)) T sv wr (M.set i r) K ∧ Frm w w' (one1 cb) := by
 have hil:i < C.length := (List.getElem?_eq_some_iff.1 hc).1
 have hci:C[i].1 = cb := by rw [(List.getElem?_eq_some_iff.1 hc).2]
 have HB1:Hid (Below w.heap.size w (w.alloc (.cells #[.pointer p,.int .i64 r.tx,.slice q r.W.length c] 125))) := (Below.refl _ _).alloc (Nat.le_refl _) _
 have hX := Box.new w #[.pointer p,.int .i64 r.tx,.slice q r.W.length c] 125
 have C1:Hid (Calls _ _ _ _ _) := place_ok i _ (h.on HB1.out) hil hl
 rw [hci] at C1
 have C2:Hid (Calls _ _ _ _ _) := there_any p q c r _ (hs.pst.imm (Imm.of_below HB1.out))
 rw [ht] at C2
 have C3:Hid (∀ w2,Below w.heap.size w w2 → Calls Tryz.prog 98 #[ptr1 cb,.int .u64 (m:Nat),stV p q c r] w2 fun e w' => e = .returned (.bool true) ∧ StX w' B sb most pb 0 dl dm pv tv (C.set i (cb,m + 1)) T sv wr (M.set i r) K ∧ Frm w2 w' (one1 cb)) := fun w2 h2 => putS i cb m p q c r w2 (h.on h2) hc (hs.imm (Imm.of_below h2)) hm hK
 clear h hs hci
 simp only [stV] at C2 C3 ⊢
 generalize r.tx = tx at *
 generalize r.W.length = n at *
 obtain ⟨⟨x0,x1,x2⟩,x3,x4,x5⟩ := box3 hX
 have HX:Hid (stB (w.alloc (.cells #[.pointer p,.int .i64 tx,.slice q n c] 125)) w.heap.size p tx q n c) := hX
 clear hX
 go_enter Tryz.func87,Tryz.ntmps87
 go_wp2_with fail
 generalize (w.alloc (.cells #[.pointer p,.int .i64 tx,.slice q n c] 125)) = w1 at *
 refine C1.out.mono ?_
 rintro e w9 ⟨rfl,hw⟩
 rw [hw]
 clear hw w9 C1
 go_wp2_with fail
 refine C2.out.mono ?_
 rintro e w2 ⟨rfl,hb2⟩
 have HB2:Hid (Below w.heap.size w w2) := HB1.out.trans (hb2.mono HB1.out.size)
 obtain ⟨⟨y0,y1,y2⟩,y3,y4,y5⟩ := box3 (HX.out.on hb2)
 clear hb2 C2 x0 x1 x2 x3 x4 x5
 go_wp2_with fail
 refine (C3.out _ HB2.out).mono ?_
 rintro e w3 ⟨rfl,hs3,hf3⟩
 go_wp2_with fail
 go_ret
 exact ⟨rfl,hs3,(Frm.of_below HB2.out).trans hf3 (fun k hk => .inl hk)⟩
end

end Go.Proofs.YtcibcfghkidncaaGreatDoor

namespace Go.Proofs.YtcibcfghkidncaaGreatDoor
open Go.RowKit Go.Lib Go.Maps
set_option maxRecDepth 100000

section
variable {B sb most pb:Nat} {dl:Nat → Int} {dm:Nat → Option Nat} {pv tv:Value} {C:List (Nat × Nat)} {T:List Nat} {sv:Int → Value} {wr:Int → List Nat} {M:List Rs} {K:Nat}
def puF (sb cb:Nat) (tv:Value):Nat → Prop := fun k => k = sb ∨ k = cb ∨ tv.ownBlock = some k

set_option maxHeartbeats 2000000 in
theorem push_off (i cb m:Nat) (p q:Option Addr) (c:Nat) (r:Rs) (w:World) (h:StX w B sb most pb 0 dl dm pv tv C T sv wr M K) (hc:C[i]? = some (cb,m)) (hs:StR w p q c r) (hm:m + 1 ≤ K) (hK:K ≤ 9000000000000000000) (hl:C.length ≤ 65536) (ht:thr r = false) (hx:∀ x ∈ T,x < 18446744073709551616) (hiT:i / 64 < T.length) (hlT:T.length ≤ 1024) :
  Calls Tryz.prog 87 #[ptr1 sb,.int .i64 (i:Nat),.int .u64 (m:Nat),stV p q c r] w fun e w' => e = .returned (.bool true) ∧ StX w' B sb most pb 0 dl dm pv tv (C.set i (cb,m + 1)) (offT T i) sv wr (M.set i r) K ∧ Frm w w' (puF sb cb tv) := by
 have hil:i < C.length := (List.getElem?_eq_some_iff.1 hc).1
 have hci:C[i].1 = cb := by rw [(List.getElem?_eq_some_iff.1 hc).2]
 have HB1:Hid (Below w.heap.size w (w.alloc (.cells #[.pointer p,.int .i64 r.tx,.slice q r.W.length c] 125))) := (Below.refl _ _).alloc (Nat.le_refl _) _
 have hX := Box.new w #[.pointer p,.int .i64 r.tx,.slice q r.W.length c] 125
 have C1:Hid (Calls _ _ _ _ _) := place_ok i _ (h.on HB1.out) hil hl
 rw [hci] at C1
 have C2:Hid (Calls _ _ _ _ _) := there_any p q c r _ (hs.pst.imm (Imm.of_below HB1.out))
 rw [ht] at C2
 have HS:Hid (StX w B sb most pb 0 dl dm pv tv C T sv wr M K) := h
 have HC:Hid (C[i]? = some (cb,m)) := hc
 have HR:Hid (∀ w2,Imm w w2 → StR w2 p q c r) := fun w2 h2 => hs.imm h2
 have C3:Hid (∀ w2,StX w2 B sb most pb 1 dl dm pv tv C T sv wr M K → Imm w w2 → Calls Tryz.prog 98 #[ptr1 cb,.int .u64 (m:Nat),stV p q c r] w2 fun e w' => e = .returned (.bool true) ∧ StX w' B sb most pb 1 dl dm pv tv (C.set i (cb,m + 1)) T sv wr (M.set i r) K ∧ Frm w2 w' (one1 cb)) := fun w2 h2 h3 => putS i cb m p q c r w2 h2 hc (HR.out w2 h3) hm hK
 have HX0:Hid (∀ x ∈ T,x < 18446744073709551616) := hx
 clear h hs hci hx hc
 simp only [stV] at C2 C3 ⊢
 generalize r.tx = tx at *
 generalize r.W.length = n at *
 obtain ⟨⟨x0,x1,x2⟩,x3,x4,x5⟩ := box3 hX
 have HX:Hid (stB (w.alloc (.cells #[.pointer p,.int .i64 tx,.slice q n c] 125)) w.heap.size p tx q n c) := hX
 clear hX
 go_enter_defers Tryz.func87,Tryz.ntmps87
 go_wp2_with fail
 generalize (w.alloc (.cells #[.pointer p,.int .i64 tx,.slice q n c] 125)) = w1 at *
 refine C1.out.mono ?_
 rintro e w9 ⟨rfl,hw⟩
 rw [hw]
 clear hw w9 C1
 go_wp2_with fail
 refine C2.out.mono ?_
 rintro e w2 ⟨rfl,hb2⟩
 have HB2:Hid (Below w.heap.size w w2) := HB1.out.trans (hb2.mono HB1.out.size)
 have HX2:Hid (stB w2 w.heap.size p tx q n c) := HX.out.on hb2
 have C4:Hid (Calls _ _ _ _ _) := lockS w2 (HS.out.on HB2.out)
 clear hb2 C2 x0 x1 x2 x3 x4 x5 HX
 go_wp2_with fail
 refine C4.out.mono ?_
 rintro e w3 ⟨rfl,hs3,hf3⟩
 have hne:¬ one1 sb w.heap.size := fun e => by
  have:w.heap.size = sb := e
  have := HS.out.blk.lt
  omega
 obtain ⟨⟨y0,y1,y2⟩,y3,y4,y5⟩ := box3 (HX2.out.frm hf3 hne)
 have hi3:Imm w w3 := (Imm.of_below HB2.out).trans (Imm.of_frm hf3 (fun k hk => by rw [hk]; exact (HS.out.on HB2.out).blk.mut))
 have C5:Hid (Calls _ _ _ _ _) := C3.out w3 hs3 hi3
 have HF3:Hid (Frm w w3 (puF sb cb tv)) := (Frm.of_below HB2.out).trans hf3 (fun k hk => .inl (.inl hk))
 clear hs3 hf3 hi3 C4 C3
 go_wp2_with fail
 refine C5.out.mono ?_
 rintro e w4 ⟨rfl,hs4,hf4⟩
 have C6:Hid (Calls _ _ _ _ _) := without_any T tv B i w4 hs4.tak hs4.tnb HX0.out hiT hlT
 have c4 := hs4.blk.cell.1.2.2.2
 have HS4:Hid (StX w4 B sb most pb 1 dl dm pv tv (C.set i (cb,m + 1)) T sv wr (M.set i r) K) := hs4
 have HF4:Hid (Frm w w4 (puF sb cb tv)) := HF3.out.trans hf4 (fun k hk => .inl (.inr (.inl hk)))
 obtain ⟨pt,ct,rfl,_⟩ := owns_len hs4.tak
 clear hs4 hf4 C5 y0 y1 y2 y3 y4 y5
 go_wp2_with fail
 refine C6.out.mono ?_
 rintro e w5 ⟨rfl,ho5,hn5,hf5⟩
 have HS5:Hid (StX w5 B sb most pb 1 dl dm pv (.slice pt T.length ct) (C.set i (cb,m + 1)) (offT T i) sv wr (M.set i r) K) := HS4.out.tkn hf5 ho5 hn5
 have HF5:Hid (Frm w w5 (puF sb cb (.slice pt T.length ct))) := HF4.out.trans hf5 (fun k hk => .inl (.inr (.inr hk)))
 clear ho5 hn5 hf5 C6 c4
 go_wp2_with fail
 refine leaves_cons (f := 48) (args := #[.pointer (some ⟨sb,2,none⟩)]) (by simp) (by simp [go_sem]) ?_
 refine (unlockS .returning w5 HS5.out).mono ?_
 rintro e u' w6 ⟨rfl,rfl,hs6,hf6⟩
 refine ⟨_,results_tmp (t := 8) rfl _ _ _,?_⟩
 exact ⟨rfl,hs6,HF5.out.trans hf6 (fun k hk => .inl (.inl hk))⟩
end

end Go.Proofs.YtcibcfghkidncaaGreatDoor

namespace Go.Proofs.YtcibcfghkidncaaGreatDoor
open Go.RowKit Go.Lib Go.Maps
set_option maxRecDepth 100000

section
variable {B sb most pb:Nat} {dl:Nat → Int} {dm:Nat → Option Nat} {pv tv:Value} {C:List (Nat × Nat)} {T:List Nat} {sv:Int → Value} {wo:Int → List Nat} {M:List Rs} {K:Nat}
theorem push_any (i cb m:Nat) (p q:Option Addr) (c:Nat) (r:Rs) (w:World) (h:StX w B sb most pb 0 dl dm pv tv C T sv wo M K) (hc:C[i]? = some (cb,m)) (hs:StR w p q c r) (hm:m + 1 ≤ K) (hK:K ≤ 9000000000000000000) (hl:C.length ≤ 65536) (hx:∀ x ∈ T,x < 18446744073709551616) (hiT:i / 64 < T.length) (hlT:T.length ≤ 1024) :
  Calls Tryz.prog 87 #[ptr1 sb,.int .i64 (i:Nat),.int .u64 (m:Nat),stV p q c r] w fun e w' => e = .returned (.bool true) ∧ StX w' B sb most pb 0 dl dm pv tv (C.set i (cb,m + 1)) (tkT T i r) sv wo (M.set i r) K ∧ Frm w w' (puF sb cb tv) := by
 cases ht:thr r with
 | true =>
  refine (push_on i cb m p q c r w h hc hs hm hK hl ht).mono ?_
  rintro e w' ⟨h1,h2,h3⟩
  rw [show tkT T i r = T by unfold tkT; rw [ht]; rfl]
  exact ⟨h1,h2,h3.mono (fun k hk => .inl (.inr (.inl hk)))⟩
 | false =>
  refine (push_off i cb m p q c r w h hc hs hm hK hl ht hx hiT hlT).mono ?_
  rintro e w' ⟨h1,h2,h3⟩
  rw [show tkT T i r = offT T i by unfold tkT; rw [ht]; rfl]
  exact ⟨h1,h2,h3⟩
theorem stF_set {i cb m:Nat} (hc:C[i]? = some (cb,m)) {k:Nat} (h:stF sb dm pv tv (C.set i (cb,m + 1)) sv wo k):stF sb dm pv tv C sv wo k := by
 rcases h with h | h | h | ⟨c,hm,rfl⟩ | h | h
 ·exact .inl h
 ·exact .inr (.inl h)
 ·exact .inr (.inr (.inl h))
 ·rcases List.mem_or_eq_of_mem_set hm with h1 | rfl
  ·exact .inr (.inr (.inr (.inl ⟨c,h1,rfl⟩)))
  ·exact .inr (.inr (.inr (.inl ⟨(cb,m),List.mem_of_getElem? hc,rfl⟩)))
 ·exact .inr (.inr (.inr (.inr (.inl h))))
 ·exact .inr (.inr (.inr (.inr (.inr h))))

set_option maxHeartbeats 4000000 in
theorem turn1_no (fid:FuncId) (k1:Value) (i cb m:Nat) (r2:Rs) (G:Nat → Prop) (Q:World → Prop) (w:World) (h:StX w B sb most pb 0 dl dm pv tv C T sv wo M K) (hc:C[i]? = some (cb,m)) (_hK:K ≤ 9000000000000000000) (hl:C.length ≤ 65536) (him:i < M.length)
  (hin:∀ args w,(callFunc fid args).run Tryz.prog w = .ok (.enter fid args) w)
  (hG:∀ k,G k → MutB w k ∧ ¬ stF sb dm pv tv C sv wo k ∧ k < w.heap.size) (hQ:∀ wa wb,Q wa → (∀ k,G k → wb.heap[k]? = wa.heap[k]?) → Q wb)
  (HC:∀ w1 p q c,Below w.heap.size w w1 → StR w1 p q c M[i] → Calls Tryz.prog fid #[stV p q c M[i],k1] w1 fun e w2 => (∃ v2,e = .returned (.tuple #[v2,.bool false]) ∧ StV w2 v2 r2) ∧ Frm w1 w2 G ∧ Q w2) :
  Calls Tryz.prog 49 #[ptr1 sb,.int .i64 (i:Nat),.func (.func fid) #[] #[k1]] w fun e w' => (∃ v',e = .returned v' ∧ StV w' v' M[i]) ∧ StX w' B sb most pb 0 dl dm pv tv C T sv wo M K ∧ Q w' ∧ Frm w w' G := by
 have hil:i < C.length := (List.getElem?_eq_some_iff.1 hc).1
 have hci:C[i].1 = cb := by rw [(List.getElem?_eq_some_iff.1 hc).2]
 have HB0:Hid (Below w.heap.size w (w.alloc (.cells #[.pointer none,.int .i64 0,.slice none 0 0] 125))) := (Below.refl _ _).alloc (Nat.le_refl _) _
 have HX0:Hid (stB (w.alloc (.cells #[.pointer none,.int .i64 0,.slice none 0 0] 125)) w.heap.size none 0 none 0 0) := Box.new w _ _
 have C1:Hid (Calls _ _ _ _ _) := place_ok i (w.alloc (.cells #[.pointer none,.int .i64 0,.slice none 0 0] 125)) (h.on HB0.out) hil hl
 rw [hci] at C1
 obtain ⟨-,g,p,q,c,hc1,hg1,hs1⟩ := h.plc.cel i cb m M[i] hc (List.getElem?_eq_getElem him)
 have C2:Hid (Calls _ _ _ _ _) := load_any cb g m 1 p M[i].tx q M[i].W.length c none (w.alloc (.cells #[.pointer none,.int .i64 0,.slice none 0 0] 125)) (hc1.on HB0.out) ((HB0.out.block g (lt_of_block hg1)).trans hg1)
 have HC3:Hid (∀ w1,Below w.heap.size w w1 → Calls Tryz.prog fid #[stV p q c M[i],k1] w1 fun e w2 => (∃ v2,e = .returned (.tuple #[v2,.bool false]) ∧ StV w2 v2 r2) ∧ Frm w1 w2 G ∧ Q w2) := fun w1 h1 => HC w1 p q c h1 (hs1.imm (Imm.of_below h1))
 have HSt:Hid (StX w B sb most pb 0 dl dm pv tv C T sv wo M K) := h
 have HSR:Hid (StR w p q c M[i]) := hs1
 have HG:Hid (∀ k,G k → MutB w k ∧ ¬ stF sb dm pv tv C sv wo k ∧ k < w.heap.size) := hG
 have HQ:Hid (∀ wa wb,Q wa → (∀ k,G k → wb.heap[k]? = wa.heap[k]?) → Q wb) := hQ
 have HCi:Hid (C[i]? = some (cb,m)) := hc
 skip
 clear h hci hc1 hg1 hs1 HC hG hQ hc
 generalize M[i] = r at *
 obtain ⟨tx,htx⟩:∃ x,r.tx = x := ⟨_,rfl⟩
 obtain ⟨n,hn⟩:∃ x,r.W.length = x := ⟨_,rfl⟩
 simp only [stV,htx,hn] at C2 HC3
 go_enter Tryz.func49,Tryz.ntmps49
 go_wp2_with fail
 generalize (w.alloc (.cells #[.pointer none,.int .i64 0,.slice none 0 0] 125)) = w0 at *
 refine C1.out.mono ?_
 rintro e w9 ⟨rfl,hw⟩
 rw [hw]
 clear hw w9 C1
 go_wp2_with fail
 go_loopw [] (fun wr => wr = w0) (fun _ => 0)
 case atStart => rfl
 case round =>
  rw [hrel]
  clear hrel
  go_wp2_with fail
  refine C2.out.mono ?_
  rintro e w1 ⟨rfl,hb1⟩
  have h8:Below w1.heap.size w1 (w1.alloc (.cells #[.pointer p,.int .i64 tx,.slice q n c] 125)) := (Below.refl _ _).alloc (Nat.le_refl _) _
  have hb1w:Below w.heap.size w w1 := HB0.out.trans (hb1.mono HB0.out.size)
  have hb8:Below w.heap.size w (w1.alloc (.cells #[.pointer p,.int .i64 tx,.slice q n c] 125)) := hb1w.trans (h8.mono hb1w.size)
  have HX8:Hid (stB (w1.alloc (.cells #[.pointer p,.int .i64 tx,.slice q n c] 125)) w.heap.size none 0 none 0 0 ∧ stB (w1.alloc (.cells #[.pointer p,.int .i64 tx,.slice q n c] 125)) w1.heap.size p tx q n c ∧ Below w.heap.size w (w1.alloc (.cells #[.pointer p,.int .i64 tx,.slice q n c] 125)) ∧ w.heap.size < w1.heap.size) := ⟨(HX0.out.on hb1).on h8,Box.new _ _ _,hb8,(HX0.out.on hb1).lt⟩
  obtain ⟨⟨y0,y1,y2⟩,y3,y4,y5⟩ := box3 HX8.out.2.1
  clear hb1 h8 hb1w hb8 C2
  go_upto_region 3 with fail
  generalize (w1.alloc (.cells #[.pointer p,.int .i64 tx,.slice q n c] 125)) = wa at *
  go_wp2_with fail
  refine (HC3.out wa HX8.out.2.2.1).mono ?_
  rintro e w2 ⟨⟨v2,rfl,p2,q2,c2,rfl,hs2⟩,hf2,hq2⟩
  have hg6:¬ G w.heap.size := fun e => by have := (HG.out _ e).2.2; omega
  have hg8:¬ G w1.heap.size := fun e => by have := (HG.out _ e).2.2; have := HX8.out.2.2.2; omega
  have HI2:Hid (Imm w w2) := (Imm.of_below HX8.out.2.2.1).trans (Imm.of_frm hf2 (fun k hk => by
   intro cs T' z hkk
   rw [HX8.out.2.2.1.block k (HG.out k hk).2.2] at hkk
   exact (HG.out k hk).1 cs T' z hkk))
  have HF2:Hid (Frm w w2 G) := (Frm.of_below HX8.out.2.2.1).trans hf2 (fun k hk => .inl hk)
  have HX2:Hid (stB w2 w.heap.size none 0 none 0 0 ∧ stB w2 w1.heap.size p tx q n c) := ⟨HX8.out.1.frm hf2 hg6,HX8.out.2.1.frm hf2 hg8⟩
  have HS2:Hid (StR w2 p2 q2 c2 r2 ∧ Q w2) := ⟨hs2,hq2⟩
  have h1w:Hid (w.heap.size < w1.heap.size ∧ w1.heap.size < w2.heap.size) := ⟨HX8.out.2.2.2,Nat.lt_of_lt_of_le HX8.out.2.1.lt hf2.size⟩
  obtain ⟨tx2,htx2⟩:∃ x,r2.tx = x := ⟨_,rfl⟩
  obtain ⟨n2,hn2⟩:∃ x,r2.W.length = x := ⟨_,rfl⟩
  simp only [stV,htx2,hn2]
  clear hf2 hq2 hs2 HC3 HX8 y0 y1 y2 y3 y4 y5 hg6 hg8
  have h10:Below w2.heap.size w2 (w2.alloc (.cells #[.pointer p2,.int .i64 tx2,.slice q2 n2 c2] 125)) := (Below.refl _ _).alloc (Nat.le_refl _) _
  have HXA:Hid (stB (w2.alloc (.cells #[.pointer p2,.int .i64 tx2,.slice q2 n2 c2] 125)) w.heap.size none 0 none 0 0 ∧ stB (w2.alloc (.cells #[.pointer p2,.int .i64 tx2,.slice q2 n2 c2] 125)) w1.heap.size p tx q n c ∧ stB (w2.alloc (.cells #[.pointer p2,.int .i64 tx2,.slice q2 n2 c2] 125)) w2.heap.size p2 tx2 q2 n2 c2 ∧ Below w2.heap.size w2 (w2.alloc (.cells #[.pointer p2,.int .i64 tx2,.slice q2 n2 c2] 125))) := ⟨HX2.out.1.on h10,HX2.out.2.on h10,Box.new _ _ _,h10⟩
  clear h10
  go_upto_region 4 with fail
  generalize (w2.alloc (.cells #[.pointer p2,.int .i64 tx2,.slice q2 n2 c2] 125)) = w3 at *
  have HI3:Hid (Imm w w3) := HI2.out.trans (Imm.of_below HXA.out.2.2.2)
  have HF3:Hid (Frm w w3 G) := HF2.out.trans (Frm.of_below (F := none1) HXA.out.2.2.2) (fun k hk => hk.elim)
  have HQ3:Hid (Q w3) := HQ.out w2 w3 HS2.out.2 (fun k hk => HXA.out.2.2.2.block k (by have := (HG.out k hk).2.2; have := h1w.out; omega))
  have HS3:Hid (StX w3 B sb most pb 0 dl dm pv tv C T sv wo M K) := HSt.out.keep HF3.out HI3.out (fun k hk hg => (HG.out k hg).2.1 hk)
  obtain ⟨⟨x0,x1,x2⟩,x3,x4,x5⟩ := box3 HXA.out.1
  obtain ⟨⟨y0,y1,y2⟩,y3,y4,y5⟩ := box3 HXA.out.2.1
  obtain ⟨⟨z0,z1,z2⟩,z3,z4,z5⟩ := box3 HXA.out.2.2.1
  go_wp2_with fail
  obtain ⟨hZ,hI,hF⟩ := st_store HXA.out.1 p tx q n c
  generalize ((w3.setCell ⟨w.heap.size,0,none⟩ (.pointer p)).setCell ⟨w.heap.size,1,none⟩ (.int .i64 tx)).setCell ⟨w.heap.size,2,none⟩ (.slice q n c) = w9 at *
  obtain ⟨⟨o0,o1,o2⟩,_⟩ := box3 hZ
  (try simp only [Exit.inBlock,Exit.then])
  refine bodyPost_ret (v := .agg #[.pointer p,.int .i64 tx,.slice q n c]) (by simp [results,Tryz.results49,go_sem,o0,o1,o2]) rfl ?_
  have hlt := HSt.out.blk.lt
  exact ⟨⟨_,rfl,p,q,c,by simp only [stV,htx,hn],HSR.out.imm (HI3.out.trans hI)⟩,HS3.out.keep hF hI (fun k hk e => by
   have := (HSt.out.mut hk).2.2
   have e':k = w.heap.size := e
   omega),HQ.out w3 w9 HQ3.out (fun k hk => hF.block k (by have := (HG.out k hk).2.2; have := HF3.out.size; omega) (fun e => by
   have e':k = w.heap.size := e
   have := (HG.out k hk).2.2
   omega)),HF3.out.trans hF (fun k hk => .inr (by rw [hk]; exact Nat.le_refl _))⟩

set_option maxHeartbeats 4000000 in
theorem turn1_yes (fid:FuncId) (k1:Value) (i cb m:Nat) (r2:Rs) (G:Nat → Prop) (Q:World → Prop) (w:World) (h:StX w B sb most pb 0 dl dm pv tv C T sv wo M K) (hc:C[i]? = some (cb,m)) (hK:K ≤ 9000000000000000000) (hl:C.length ≤ 65536) (him:i < M.length) (hm:m + 1 ≤ K) (hx:∀ x ∈ T,x < 18446744073709551616) (hiT:i / 64 < T.length) (hlT:T.length ≤ 1024)
  (hin:∀ args w,(callFunc fid args).run Tryz.prog w = .ok (.enter fid args) w)
  (hG:∀ k,G k → MutB w k ∧ ¬ stF sb dm pv tv C sv wo k ∧ k < w.heap.size) (hQ:∀ wa wb,Q wa → (∀ k,G k → wb.heap[k]? = wa.heap[k]?) → Q wb)
  (HC:∀ w1 p q c,Below w.heap.size w w1 → StR w1 p q c M[i] → Calls Tryz.prog fid #[stV p q c M[i],k1] w1 fun e w2 => (∃ v2,e = .returned (.tuple #[v2,.bool true]) ∧ StV w2 v2 r2) ∧ Frm w1 w2 G ∧ Q w2) :
  Calls Tryz.prog 49 #[ptr1 sb,.int .i64 (i:Nat),.func (.func fid) #[] #[k1]] w fun e w' => (∃ v',e = .returned v' ∧ StV w' v' r2) ∧ StX w' B sb most pb 0 dl dm pv tv (C.set i (cb,m + 1)) (tkT T i r2) sv wo (M.set i r2) K ∧ Q w' ∧ Frm w w' (fun k => G k ∨ puF sb cb tv k) := by
 have hil:i < C.length := (List.getElem?_eq_some_iff.1 hc).1
 have hci:C[i].1 = cb := by rw [(List.getElem?_eq_some_iff.1 hc).2]
 have HB0:Hid (Below w.heap.size w (w.alloc (.cells #[.pointer none,.int .i64 0,.slice none 0 0] 125))) := (Below.refl _ _).alloc (Nat.le_refl _) _
 have HX0:Hid (stB (w.alloc (.cells #[.pointer none,.int .i64 0,.slice none 0 0] 125)) w.heap.size none 0 none 0 0) := Box.new w _ _
 have C1:Hid (Calls _ _ _ _ _) := place_ok i (w.alloc (.cells #[.pointer none,.int .i64 0,.slice none 0 0] 125)) (h.on HB0.out) hil hl
 rw [hci] at C1
 obtain ⟨-,g,p,q,c,hc1,hg1,hs1⟩ := h.plc.cel i cb m M[i] hc (List.getElem?_eq_getElem him)
 have C2:Hid (Calls _ _ _ _ _) := load_any cb g m 1 p M[i].tx q M[i].W.length c none (w.alloc (.cells #[.pointer none,.int .i64 0,.slice none 0 0] 125)) (hc1.on HB0.out) ((HB0.out.block g (lt_of_block hg1)).trans hg1)
 have HC3:Hid (∀ w1,Below w.heap.size w w1 → Calls Tryz.prog fid #[stV p q c M[i],k1] w1 fun e w2 => (∃ v2,e = .returned (.tuple #[v2,.bool true]) ∧ StV w2 v2 r2) ∧ Frm w1 w2 G ∧ Q w2) := fun w1 h1 => HC w1 p q c h1 (hs1.imm (Imm.of_below h1))
 have HSt:Hid (StX w B sb most pb 0 dl dm pv tv C T sv wo M K) := h
 have HSR:Hid (StR w p q c M[i]) := hs1
 have HG:Hid (∀ k,G k → MutB w k ∧ ¬ stF sb dm pv tv C sv wo k ∧ k < w.heap.size) := hG
 have HQ:Hid (∀ wa wb,Q wa → (∀ k,G k → wb.heap[k]? = wa.heap[k]?) → Q wb) := hQ
 have HCi:Hid (C[i]? = some (cb,m)) := hc
 have HX9:Hid (∀ x ∈ T,x < 18446744073709551616) := hx
 clear h hci hc1 hg1 hs1 HC hG hQ hc hx
 generalize M[i] = r at *
 obtain ⟨tx,htx⟩:∃ x,r.tx = x := ⟨_,rfl⟩
 obtain ⟨n,hn⟩:∃ x,r.W.length = x := ⟨_,rfl⟩
 simp only [stV,htx,hn] at C2 HC3
 go_enter Tryz.func49,Tryz.ntmps49
 go_wp2_with fail
 generalize (w.alloc (.cells #[.pointer none,.int .i64 0,.slice none 0 0] 125)) = w0 at *
 refine C1.out.mono ?_
 rintro e w9 ⟨rfl,hw⟩
 rw [hw]
 clear hw w9 C1
 go_wp2_with fail
 go_loopw [] (fun wr => wr = w0) (fun _ => 0)
 case atStart => rfl
 case round =>
  rw [hrel]
  clear hrel
  go_wp2_with fail
  refine C2.out.mono ?_
  rintro e w1 ⟨rfl,hb1⟩
  have h8:Below w1.heap.size w1 (w1.alloc (.cells #[.pointer p,.int .i64 tx,.slice q n c] 125)) := (Below.refl _ _).alloc (Nat.le_refl _) _
  have hb1w:Below w.heap.size w w1 := HB0.out.trans (hb1.mono HB0.out.size)
  have hb8:Below w.heap.size w (w1.alloc (.cells #[.pointer p,.int .i64 tx,.slice q n c] 125)) := hb1w.trans (h8.mono hb1w.size)
  have HX8:Hid (stB (w1.alloc (.cells #[.pointer p,.int .i64 tx,.slice q n c] 125)) w.heap.size none 0 none 0 0 ∧ stB (w1.alloc (.cells #[.pointer p,.int .i64 tx,.slice q n c] 125)) w1.heap.size p tx q n c ∧ Below w.heap.size w (w1.alloc (.cells #[.pointer p,.int .i64 tx,.slice q n c] 125)) ∧ w.heap.size < w1.heap.size) := ⟨(HX0.out.on hb1).on h8,Box.new _ _ _,hb8,(HX0.out.on hb1).lt⟩
  obtain ⟨⟨y0,y1,y2⟩,y3,y4,y5⟩ := box3 HX8.out.2.1
  clear hb1 h8 hb1w hb8 C2
  go_upto_region 3 with fail
  generalize (w1.alloc (.cells #[.pointer p,.int .i64 tx,.slice q n c] 125)) = wa at *
  go_wp2_with fail
  refine (HC3.out wa HX8.out.2.2.1).mono ?_
  rintro e w2 ⟨⟨v2,rfl,p2,q2,c2,rfl,hs2⟩,hf2,hq2⟩
  have hg6:¬ G w.heap.size := fun e => by have := (HG.out _ e).2.2; omega
  have hg8:¬ G w1.heap.size := fun e => by have := (HG.out _ e).2.2; have := HX8.out.2.2.2; omega
  have HI2:Hid (Imm w w2) := (Imm.of_below HX8.out.2.2.1).trans (Imm.of_frm hf2 (fun k hk => by
   intro cs T' z hkk
   rw [HX8.out.2.2.1.block k (HG.out k hk).2.2] at hkk
   exact (HG.out k hk).1 cs T' z hkk))
  have HF2:Hid (Frm w w2 G) := (Frm.of_below HX8.out.2.2.1).trans hf2 (fun k hk => .inl hk)
  have HX2:Hid (stB w2 w.heap.size none 0 none 0 0 ∧ stB w2 w1.heap.size p tx q n c) := ⟨HX8.out.1.frm hf2 hg6,HX8.out.2.1.frm hf2 hg8⟩
  have HS2:Hid (StR w2 p2 q2 c2 r2 ∧ Q w2) := ⟨hs2,hq2⟩
  have h1w:Hid (w.heap.size < w1.heap.size ∧ w1.heap.size < w2.heap.size) := ⟨HX8.out.2.2.2,Nat.lt_of_lt_of_le HX8.out.2.1.lt hf2.size⟩
  obtain ⟨tx2,htx2⟩:∃ x,r2.tx = x := ⟨_,rfl⟩
  obtain ⟨n2,hn2⟩:∃ x,r2.W.length = x := ⟨_,rfl⟩
  simp only [stV,htx2,hn2]
  clear hf2 hq2 hs2 HC3 HX8 y0 y1 y2 y3 y4 y5 hg6 hg8
  have h10:Below w2.heap.size w2 (w2.alloc (.cells #[.pointer p2,.int .i64 tx2,.slice q2 n2 c2] 125)) := (Below.refl _ _).alloc (Nat.le_refl _) _
  have HXA:Hid (stB (w2.alloc (.cells #[.pointer p2,.int .i64 tx2,.slice q2 n2 c2] 125)) w.heap.size none 0 none 0 0 ∧ stB (w2.alloc (.cells #[.pointer p2,.int .i64 tx2,.slice q2 n2 c2] 125)) w1.heap.size p tx q n c ∧ stB (w2.alloc (.cells #[.pointer p2,.int .i64 tx2,.slice q2 n2 c2] 125)) w2.heap.size p2 tx2 q2 n2 c2 ∧ Below w2.heap.size w2 (w2.alloc (.cells #[.pointer p2,.int .i64 tx2,.slice q2 n2 c2] 125))) := ⟨HX2.out.1.on h10,HX2.out.2.on h10,Box.new _ _ _,h10⟩
  clear h10
  go_upto_region 4 with fail
  generalize (w2.alloc (.cells #[.pointer p2,.int .i64 tx2,.slice q2 n2 c2] 125)) = w3 at *
  have HI3:Hid (Imm w w3) := HI2.out.trans (Imm.of_below HXA.out.2.2.2)
  have HF3:Hid (Frm w w3 G) := HF2.out.trans (Frm.of_below (F := none1) HXA.out.2.2.2) (fun k hk => hk.elim)
  have HQ3:Hid (Q w3) := HQ.out w2 w3 HS2.out.2 (fun k hk => HXA.out.2.2.2.block k (by have := (HG.out k hk).2.2; have := h1w.out; omega))
  have HS3:Hid (StX w3 B sb most pb 0 dl dm pv tv C T sv wo M K) := HSt.out.keep HF3.out HI3.out (fun k hk hg => (HG.out k hg).2.1 hk)
  obtain ⟨⟨x0,x1,x2⟩,x3,x4,x5⟩ := box3 HXA.out.1
  obtain ⟨⟨y0,y1,y2⟩,y3,y4,y5⟩ := box3 HXA.out.2.1
  obtain ⟨⟨z0,z1,z2⟩,z3,z4,z5⟩ := box3 HXA.out.2.2.1
  have C5:Hid (Calls _ _ _ _ _) := push_any i cb m p2 q2 c2 r2 w3 HS3.out HCi.out (HS2.out.1.imm (Imm.of_below HXA.out.2.2.2)) hm hK hl HX9.out hiT hlT
  simp only [stV,htx2,hn2] at C5
  go_wp2_with fail
  refine C5.out.mono ?_
  rintro e w5 ⟨rfl,hs5,hf5⟩
  have hsz:∀ k,puF sb cb tv k → k < w.heap.size ∧ ¬ G k ∧ MutB w3 k := fun k hk => by
   have hst:stF sb dm pv tv C sv wo k := by
    rcases hk with e | e | hk
    ·exact .inl e
    ·exact .inr (.inr (.inr (.inl ⟨(cb,m),List.mem_of_getElem? HCi.out,e.symm⟩)))
    ·exact .inr (.inl hk)
   exact ⟨(HSt.out.mut hst).2.2,fun hg => (HG.out k hg).2.1 hst,(HS3.out.mut hst).1⟩
  have hn6:¬ puF sb cb tv w.heap.size := fun e => by have := (hsz _ e).1; omega
  have hn10:¬ puF sb cb tv w2.heap.size := fun e => by have := (hsz _ e).1; have := h1w.out; omega
  have HX5:Hid (stB w5 w.heap.size none 0 none 0 0 ∧ stB w5 w2.heap.size p2 tx2 q2 n2 c2) := ⟨HXA.out.1.frm hf5 hn6,HXA.out.2.2.1.frm hf5 hn10⟩
  have HI5:Hid (Imm w3 w5) := Imm.of_frm hf5 (fun k hk => (hsz k hk).2.2)
  have HS5:Hid (StX w5 B sb most pb 0 dl dm pv tv (C.set i (cb,m + 1)) (tkT T i r2) sv wo (M.set i r2) K) := hs5
  have HF5:Hid (Frm w w5 (fun k => G k ∨ puF sb cb tv k)) := (HF3.out.mono (fun k hk => .inl (.inl hk))).trans hf5 (fun k hk => .inl (.inr hk))
  have HQ5:Hid (Q w5) := HQ.out w3 w5 HQ3.out (fun k hk => hf5.block k (by have := (HG.out k hk).2.2; have := HF3.out.size; omega) (fun e => (hsz k e).2.1 hk))
  clear hs5 hf5 C5 x0 x1 x2 x3 x4 x5 y0 y1 y2 y3 y4 y5 z0 z1 z2 z3 z4 z5 hsz hn6 hn10
  obtain ⟨⟨x0,x1,x2⟩,x3,x4,x5⟩ := box3 HX5.out.1
  obtain ⟨⟨z0,z1,z2⟩,z3,z4,z5⟩ := box3 HX5.out.2
  go_wp2_with fail
  obtain ⟨hZ,hI,hF⟩ := st_store HX5.out.1 p2 tx2 q2 n2 c2
  generalize ((w5.setCell ⟨w.heap.size,0,none⟩ (.pointer p2)).setCell ⟨w.heap.size,1,none⟩ (.int .i64 tx2)).setCell ⟨w.heap.size,2,none⟩ (.slice q2 n2 c2) = w9 at *
  obtain ⟨⟨o0,o1,o2⟩,_⟩ := box3 hZ
  (try simp only [Exit.inBlock,Exit.then])
  refine bodyPost_ret (v := .agg #[.pointer p2,.int .i64 tx2,.slice q2 n2 c2]) (by simp [results,Tryz.results49,go_sem,o0,o1,o2]) rfl ?_
  have hst':∀ k,stF sb dm pv tv (C.set i (cb,m + 1)) sv wo k → stF sb dm pv tv C sv wo k := fun k hk => stF_set HCi.out hk
  exact ⟨⟨_,rfl,p2,q2,c2,by simp only [stV,htx2,hn2],((HS2.out.1.imm (Imm.of_below HXA.out.2.2.2)).imm HI5.out).imm hI⟩,HS5.out.keep hF hI (fun k hk e => by
   have := (HSt.out.mut (hst' k hk)).2.2
   have e':k = w.heap.size := e
   omega),HQ.out w5 w9 HQ5.out (fun k hk => hF.block k (by have := (HG.out k hk).2.2; have := HF5.out.size; omega) (fun e => by
   have e':k = w.heap.size := e
   have := (HG.out k hk).2.2
   omega)),HF5.out.trans hF (fun k hk => .inr (by rw [hk]; exact Nat.le_refl _))⟩

set_option maxHeartbeats 4000000 in
theorem turn2_no (fid:FuncId) (k1 k2:Value) (i cb m:Nat) (r2:Rs) (G:Nat → Prop) (Q:World → Prop) (w:World) (h:StX w B sb most pb 0 dl dm pv tv C T sv wo M K) (hc:C[i]? = some (cb,m)) (_hK:K ≤ 9000000000000000000) (hl:C.length ≤ 65536) (him:i < M.length)
  (hin:∀ args w,(callFunc fid args).run Tryz.prog w = .ok (.enter fid args) w)
  (hG:∀ k,G k → MutB w k ∧ ¬ stF sb dm pv tv C sv wo k ∧ k < w.heap.size) (hQ:∀ wa wb,Q wa → (∀ k,G k → wb.heap[k]? = wa.heap[k]?) → Q wb)
  (HC:∀ w1 p q c,Below w.heap.size w w1 → StR w1 p q c M[i] → Calls Tryz.prog fid #[stV p q c M[i],k1,k2] w1 fun e w2 => (∃ v2,e = .returned (.tuple #[v2,.bool false]) ∧ StV w2 v2 r2) ∧ Frm w1 w2 G ∧ Q w2) :
  Calls Tryz.prog 49 #[ptr1 sb,.int .i64 (i:Nat),.func (.func fid) #[] #[k1,k2]] w fun e w' => (∃ v',e = .returned v' ∧ StV w' v' M[i]) ∧ StX w' B sb most pb 0 dl dm pv tv C T sv wo M K ∧ Q w' ∧ Frm w w' G := by
 have hil:i < C.length := (List.getElem?_eq_some_iff.1 hc).1
 have hci:C[i].1 = cb := by rw [(List.getElem?_eq_some_iff.1 hc).2]
 have HB0:Hid (Below w.heap.size w (w.alloc (.cells #[.pointer none,.int .i64 0,.slice none 0 0] 125))) := (Below.refl _ _).alloc (Nat.le_refl _) _
 have HX0:Hid (stB (w.alloc (.cells #[.pointer none,.int .i64 0,.slice none 0 0] 125)) w.heap.size none 0 none 0 0) := Box.new w _ _
 have C1:Hid (Calls _ _ _ _ _) := place_ok i (w.alloc (.cells #[.pointer none,.int .i64 0,.slice none 0 0] 125)) (h.on HB0.out) hil hl
 rw [hci] at C1
 obtain ⟨-,g,p,q,c,hc1,hg1,hs1⟩ := h.plc.cel i cb m M[i] hc (List.getElem?_eq_getElem him)
 have C2:Hid (Calls _ _ _ _ _) := load_any cb g m 1 p M[i].tx q M[i].W.length c none (w.alloc (.cells #[.pointer none,.int .i64 0,.slice none 0 0] 125)) (hc1.on HB0.out) ((HB0.out.block g (lt_of_block hg1)).trans hg1)
 have HC3:Hid (∀ w1,Below w.heap.size w w1 → Calls Tryz.prog fid #[stV p q c M[i],k1,k2] w1 fun e w2 => (∃ v2,e = .returned (.tuple #[v2,.bool false]) ∧ StV w2 v2 r2) ∧ Frm w1 w2 G ∧ Q w2) := fun w1 h1 => HC w1 p q c h1 (hs1.imm (Imm.of_below h1))
 have HSt:Hid (StX w B sb most pb 0 dl dm pv tv C T sv wo M K) := h
 have HSR:Hid (StR w p q c M[i]) := hs1
 have HG:Hid (∀ k,G k → MutB w k ∧ ¬ stF sb dm pv tv C sv wo k ∧ k < w.heap.size) := hG
 have HQ:Hid (∀ wa wb,Q wa → (∀ k,G k → wb.heap[k]? = wa.heap[k]?) → Q wb) := hQ
 have HCi:Hid (C[i]? = some (cb,m)) := hc
 skip
 clear h hci hc1 hg1 hs1 HC hG hQ hc
 generalize M[i] = r at *
 obtain ⟨tx,htx⟩:∃ x,r.tx = x := ⟨_,rfl⟩
 obtain ⟨n,hn⟩:∃ x,r.W.length = x := ⟨_,rfl⟩
 simp only [stV,htx,hn] at C2 HC3
 go_enter Tryz.func49,Tryz.ntmps49
 go_wp2_with fail
 generalize (w.alloc (.cells #[.pointer none,.int .i64 0,.slice none 0 0] 125)) = w0 at *
 refine C1.out.mono ?_
 rintro e w9 ⟨rfl,hw⟩
 rw [hw]
 clear hw w9 C1
 go_wp2_with fail
 go_loopw [] (fun wr => wr = w0) (fun _ => 0)
 case atStart => rfl
 case round =>
  rw [hrel]
  clear hrel
  go_wp2_with fail
  refine C2.out.mono ?_
  rintro e w1 ⟨rfl,hb1⟩
  have h8:Below w1.heap.size w1 (w1.alloc (.cells #[.pointer p,.int .i64 tx,.slice q n c] 125)) := (Below.refl _ _).alloc (Nat.le_refl _) _
  have hb1w:Below w.heap.size w w1 := HB0.out.trans (hb1.mono HB0.out.size)
  have hb8:Below w.heap.size w (w1.alloc (.cells #[.pointer p,.int .i64 tx,.slice q n c] 125)) := hb1w.trans (h8.mono hb1w.size)
  have HX8:Hid (stB (w1.alloc (.cells #[.pointer p,.int .i64 tx,.slice q n c] 125)) w.heap.size none 0 none 0 0 ∧ stB (w1.alloc (.cells #[.pointer p,.int .i64 tx,.slice q n c] 125)) w1.heap.size p tx q n c ∧ Below w.heap.size w (w1.alloc (.cells #[.pointer p,.int .i64 tx,.slice q n c] 125)) ∧ w.heap.size < w1.heap.size) := ⟨(HX0.out.on hb1).on h8,Box.new _ _ _,hb8,(HX0.out.on hb1).lt⟩
  obtain ⟨⟨y0,y1,y2⟩,y3,y4,y5⟩ := box3 HX8.out.2.1
  clear hb1 h8 hb1w hb8 C2
  go_upto_region 3 with fail
  generalize (w1.alloc (.cells #[.pointer p,.int .i64 tx,.slice q n c] 125)) = wa at *
  go_wp2_with fail
  refine (HC3.out wa HX8.out.2.2.1).mono ?_
  rintro e w2 ⟨⟨v2,rfl,p2,q2,c2,rfl,hs2⟩,hf2,hq2⟩
  have hg6:¬ G w.heap.size := fun e => by have := (HG.out _ e).2.2; omega
  have hg8:¬ G w1.heap.size := fun e => by have := (HG.out _ e).2.2; have := HX8.out.2.2.2; omega
  have HI2:Hid (Imm w w2) := (Imm.of_below HX8.out.2.2.1).trans (Imm.of_frm hf2 (fun k hk => by
   intro cs T' z hkk
   rw [HX8.out.2.2.1.block k (HG.out k hk).2.2] at hkk
   exact (HG.out k hk).1 cs T' z hkk))
  have HF2:Hid (Frm w w2 G) := (Frm.of_below HX8.out.2.2.1).trans hf2 (fun k hk => .inl hk)
  have HX2:Hid (stB w2 w.heap.size none 0 none 0 0 ∧ stB w2 w1.heap.size p tx q n c) := ⟨HX8.out.1.frm hf2 hg6,HX8.out.2.1.frm hf2 hg8⟩
  have HS2:Hid (StR w2 p2 q2 c2 r2 ∧ Q w2) := ⟨hs2,hq2⟩
  have h1w:Hid (w.heap.size < w1.heap.size ∧ w1.heap.size < w2.heap.size) := ⟨HX8.out.2.2.2,Nat.lt_of_lt_of_le HX8.out.2.1.lt hf2.size⟩
  obtain ⟨tx2,htx2⟩:∃ x,r2.tx = x := ⟨_,rfl⟩
  obtain ⟨n2,hn2⟩:∃ x,r2.W.length = x := ⟨_,rfl⟩
  simp only [stV,htx2,hn2]
  clear hf2 hq2 hs2 HC3 HX8 y0 y1 y2 y3 y4 y5 hg6 hg8
  have h10:Below w2.heap.size w2 (w2.alloc (.cells #[.pointer p2,.int .i64 tx2,.slice q2 n2 c2] 125)) := (Below.refl _ _).alloc (Nat.le_refl _) _
  have HXA:Hid (stB (w2.alloc (.cells #[.pointer p2,.int .i64 tx2,.slice q2 n2 c2] 125)) w.heap.size none 0 none 0 0 ∧ stB (w2.alloc (.cells #[.pointer p2,.int .i64 tx2,.slice q2 n2 c2] 125)) w1.heap.size p tx q n c ∧ stB (w2.alloc (.cells #[.pointer p2,.int .i64 tx2,.slice q2 n2 c2] 125)) w2.heap.size p2 tx2 q2 n2 c2 ∧ Below w2.heap.size w2 (w2.alloc (.cells #[.pointer p2,.int .i64 tx2,.slice q2 n2 c2] 125))) := ⟨HX2.out.1.on h10,HX2.out.2.on h10,Box.new _ _ _,h10⟩
  clear h10
  go_upto_region 4 with fail
  generalize (w2.alloc (.cells #[.pointer p2,.int .i64 tx2,.slice q2 n2 c2] 125)) = w3 at *
  have HI3:Hid (Imm w w3) := HI2.out.trans (Imm.of_below HXA.out.2.2.2)
  have HF3:Hid (Frm w w3 G) := HF2.out.trans (Frm.of_below (F := none1) HXA.out.2.2.2) (fun k hk => hk.elim)
  have HQ3:Hid (Q w3) := HQ.out w2 w3 HS2.out.2 (fun k hk => HXA.out.2.2.2.block k (by have := (HG.out k hk).2.2; have := h1w.out; omega))
  have HS3:Hid (StX w3 B sb most pb 0 dl dm pv tv C T sv wo M K) := HSt.out.keep HF3.out HI3.out (fun k hk hg => (HG.out k hg).2.1 hk)
  obtain ⟨⟨x0,x1,x2⟩,x3,x4,x5⟩ := box3 HXA.out.1
  obtain ⟨⟨y0,y1,y2⟩,y3,y4,y5⟩ := box3 HXA.out.2.1
  obtain ⟨⟨z0,z1,z2⟩,z3,z4,z5⟩ := box3 HXA.out.2.2.1
  go_wp2_with fail
  obtain ⟨hZ,hI,hF⟩ := st_store HXA.out.1 p tx q n c
  generalize ((w3.setCell ⟨w.heap.size,0,none⟩ (.pointer p)).setCell ⟨w.heap.size,1,none⟩ (.int .i64 tx)).setCell ⟨w.heap.size,2,none⟩ (.slice q n c) = w9 at *
  obtain ⟨⟨o0,o1,o2⟩,_⟩ := box3 hZ
  (try simp only [Exit.inBlock,Exit.then])
  refine bodyPost_ret (v := .agg #[.pointer p,.int .i64 tx,.slice q n c]) (by simp [results,Tryz.results49,go_sem,o0,o1,o2]) rfl ?_
  have hlt := HSt.out.blk.lt
  exact ⟨⟨_,rfl,p,q,c,by simp only [stV,htx,hn],HSR.out.imm (HI3.out.trans hI)⟩,HS3.out.keep hF hI (fun k hk e => by
   have := (HSt.out.mut hk).2.2
   have e':k = w.heap.size := e
   omega),HQ.out w3 w9 HQ3.out (fun k hk => hF.block k (by have := (HG.out k hk).2.2; have := HF3.out.size; omega) (fun e => by
   have e':k = w.heap.size := e
   have := (HG.out k hk).2.2
   omega)),HF3.out.trans hF (fun k hk => .inr (by rw [hk]; exact Nat.le_refl _))⟩

set_option maxHeartbeats 4000000 in
theorem turn2_yes (fid:FuncId) (k1 k2:Value) (i cb m:Nat) (r2:Rs) (G:Nat → Prop) (Q:World → Prop) (w:World) (h:StX w B sb most pb 0 dl dm pv tv C T sv wo M K) (hc:C[i]? = some (cb,m)) (hK:K ≤ 9000000000000000000) (hl:C.length ≤ 65536) (him:i < M.length) (hm:m + 1 ≤ K) (hx:∀ x ∈ T,x < 18446744073709551616) (hiT:i / 64 < T.length) (hlT:T.length ≤ 1024)
  (hin:∀ args w,(callFunc fid args).run Tryz.prog w = .ok (.enter fid args) w)
  (hG:∀ k,G k → MutB w k ∧ ¬ stF sb dm pv tv C sv wo k ∧ k < w.heap.size) (hQ:∀ wa wb,Q wa → (∀ k,G k → wb.heap[k]? = wa.heap[k]?) → Q wb)
  (HC:∀ w1 p q c,Below w.heap.size w w1 → StR w1 p q c M[i] → Calls Tryz.prog fid #[stV p q c M[i],k1,k2] w1 fun e w2 => (∃ v2,e = .returned (.tuple #[v2,.bool true]) ∧ StV w2 v2 r2) ∧ Frm w1 w2 G ∧ Q w2) :
  Calls Tryz.prog 49 #[ptr1 sb,.int .i64 (i:Nat),.func (.func fid) #[] #[k1,k2]] w fun e w' => (∃ v',e = .returned v' ∧ StV w' v' r2) ∧ StX w' B sb most pb 0 dl dm pv tv (C.set i (cb,m + 1)) (tkT T i r2) sv wo (M.set i r2) K ∧ Q w' ∧ Frm w w' (fun k => G k ∨ puF sb cb tv k) := by
 have hil:i < C.length := (List.getElem?_eq_some_iff.1 hc).1
 have hci:C[i].1 = cb := by rw [(List.getElem?_eq_some_iff.1 hc).2]
 have HB0:Hid (Below w.heap.size w (w.alloc (.cells #[.pointer none,.int .i64 0,.slice none 0 0] 125))) := (Below.refl _ _).alloc (Nat.le_refl _) _
 have HX0:Hid (stB (w.alloc (.cells #[.pointer none,.int .i64 0,.slice none 0 0] 125)) w.heap.size none 0 none 0 0) := Box.new w _ _
 have C1:Hid (Calls _ _ _ _ _) := place_ok i (w.alloc (.cells #[.pointer none,.int .i64 0,.slice none 0 0] 125)) (h.on HB0.out) hil hl
 rw [hci] at C1
 obtain ⟨-,g,p,q,c,hc1,hg1,hs1⟩ := h.plc.cel i cb m M[i] hc (List.getElem?_eq_getElem him)
 have C2:Hid (Calls _ _ _ _ _) := load_any cb g m 1 p M[i].tx q M[i].W.length c none (w.alloc (.cells #[.pointer none,.int .i64 0,.slice none 0 0] 125)) (hc1.on HB0.out) ((HB0.out.block g (lt_of_block hg1)).trans hg1)
 have HC3:Hid (∀ w1,Below w.heap.size w w1 → Calls Tryz.prog fid #[stV p q c M[i],k1,k2] w1 fun e w2 => (∃ v2,e = .returned (.tuple #[v2,.bool true]) ∧ StV w2 v2 r2) ∧ Frm w1 w2 G ∧ Q w2) := fun w1 h1 => HC w1 p q c h1 (hs1.imm (Imm.of_below h1))
 have HSt:Hid (StX w B sb most pb 0 dl dm pv tv C T sv wo M K) := h
 have HSR:Hid (StR w p q c M[i]) := hs1
 have HG:Hid (∀ k,G k → MutB w k ∧ ¬ stF sb dm pv tv C sv wo k ∧ k < w.heap.size) := hG
 have HQ:Hid (∀ wa wb,Q wa → (∀ k,G k → wb.heap[k]? = wa.heap[k]?) → Q wb) := hQ
 have HCi:Hid (C[i]? = some (cb,m)) := hc
 have HX9:Hid (∀ x ∈ T,x < 18446744073709551616) := hx
 clear h hci hc1 hg1 hs1 HC hG hQ hc hx
 generalize M[i] = r at *
 obtain ⟨tx,htx⟩:∃ x,r.tx = x := ⟨_,rfl⟩
 obtain ⟨n,hn⟩:∃ x,r.W.length = x := ⟨_,rfl⟩
 simp only [stV,htx,hn] at C2 HC3
 go_enter Tryz.func49,Tryz.ntmps49
 go_wp2_with fail
 generalize (w.alloc (.cells #[.pointer none,.int .i64 0,.slice none 0 0] 125)) = w0 at *
 refine C1.out.mono ?_
 rintro e w9 ⟨rfl,hw⟩
 rw [hw]
 clear hw w9 C1
 go_wp2_with fail
 go_loopw [] (fun wr => wr = w0) (fun _ => 0)
 case atStart => rfl
 case round =>
  rw [hrel]
  clear hrel
  go_wp2_with fail
  refine C2.out.mono ?_
  rintro e w1 ⟨rfl,hb1⟩
  have h8:Below w1.heap.size w1 (w1.alloc (.cells #[.pointer p,.int .i64 tx,.slice q n c] 125)) := (Below.refl _ _).alloc (Nat.le_refl _) _
  have hb1w:Below w.heap.size w w1 := HB0.out.trans (hb1.mono HB0.out.size)
  have hb8:Below w.heap.size w (w1.alloc (.cells #[.pointer p,.int .i64 tx,.slice q n c] 125)) := hb1w.trans (h8.mono hb1w.size)
  have HX8:Hid (stB (w1.alloc (.cells #[.pointer p,.int .i64 tx,.slice q n c] 125)) w.heap.size none 0 none 0 0 ∧ stB (w1.alloc (.cells #[.pointer p,.int .i64 tx,.slice q n c] 125)) w1.heap.size p tx q n c ∧ Below w.heap.size w (w1.alloc (.cells #[.pointer p,.int .i64 tx,.slice q n c] 125)) ∧ w.heap.size < w1.heap.size) := ⟨(HX0.out.on hb1).on h8,Box.new _ _ _,hb8,(HX0.out.on hb1).lt⟩
  obtain ⟨⟨y0,y1,y2⟩,y3,y4,y5⟩ := box3 HX8.out.2.1
  clear hb1 h8 hb1w hb8 C2
  go_upto_region 3 with fail
  generalize (w1.alloc (.cells #[.pointer p,.int .i64 tx,.slice q n c] 125)) = wa at *
  go_wp2_with fail
  refine (HC3.out wa HX8.out.2.2.1).mono ?_
  rintro e w2 ⟨⟨v2,rfl,p2,q2,c2,rfl,hs2⟩,hf2,hq2⟩
  have hg6:¬ G w.heap.size := fun e => by have := (HG.out _ e).2.2; omega
  have hg8:¬ G w1.heap.size := fun e => by have := (HG.out _ e).2.2; have := HX8.out.2.2.2; omega
  have HI2:Hid (Imm w w2) := (Imm.of_below HX8.out.2.2.1).trans (Imm.of_frm hf2 (fun k hk => by
   intro cs T' z hkk
   rw [HX8.out.2.2.1.block k (HG.out k hk).2.2] at hkk
   exact (HG.out k hk).1 cs T' z hkk))
  have HF2:Hid (Frm w w2 G) := (Frm.of_below HX8.out.2.2.1).trans hf2 (fun k hk => .inl hk)
  have HX2:Hid (stB w2 w.heap.size none 0 none 0 0 ∧ stB w2 w1.heap.size p tx q n c) := ⟨HX8.out.1.frm hf2 hg6,HX8.out.2.1.frm hf2 hg8⟩
  have HS2:Hid (StR w2 p2 q2 c2 r2 ∧ Q w2) := ⟨hs2,hq2⟩
  have h1w:Hid (w.heap.size < w1.heap.size ∧ w1.heap.size < w2.heap.size) := ⟨HX8.out.2.2.2,Nat.lt_of_lt_of_le HX8.out.2.1.lt hf2.size⟩
  obtain ⟨tx2,htx2⟩:∃ x,r2.tx = x := ⟨_,rfl⟩
  obtain ⟨n2,hn2⟩:∃ x,r2.W.length = x := ⟨_,rfl⟩
  simp only [stV,htx2,hn2]
  clear hf2 hq2 hs2 HC3 HX8 y0 y1 y2 y3 y4 y5 hg6 hg8
  have h10:Below w2.heap.size w2 (w2.alloc (.cells #[.pointer p2,.int .i64 tx2,.slice q2 n2 c2] 125)) := (Below.refl _ _).alloc (Nat.le_refl _) _
  have HXA:Hid (stB (w2.alloc (.cells #[.pointer p2,.int .i64 tx2,.slice q2 n2 c2] 125)) w.heap.size none 0 none 0 0 ∧ stB (w2.alloc (.cells #[.pointer p2,.int .i64 tx2,.slice q2 n2 c2] 125)) w1.heap.size p tx q n c ∧ stB (w2.alloc (.cells #[.pointer p2,.int .i64 tx2,.slice q2 n2 c2] 125)) w2.heap.size p2 tx2 q2 n2 c2 ∧ Below w2.heap.size w2 (w2.alloc (.cells #[.pointer p2,.int .i64 tx2,.slice q2 n2 c2] 125))) := ⟨HX2.out.1.on h10,HX2.out.2.on h10,Box.new _ _ _,h10⟩
  clear h10
  go_upto_region 4 with fail
  generalize (w2.alloc (.cells #[.pointer p2,.int .i64 tx2,.slice q2 n2 c2] 125)) = w3 at *
  have HI3:Hid (Imm w w3) := HI2.out.trans (Imm.of_below HXA.out.2.2.2)
  have HF3:Hid (Frm w w3 G) := HF2.out.trans (Frm.of_below (F := none1) HXA.out.2.2.2) (fun k hk => hk.elim)
  have HQ3:Hid (Q w3) := HQ.out w2 w3 HS2.out.2 (fun k hk => HXA.out.2.2.2.block k (by have := (HG.out k hk).2.2; have := h1w.out; omega))
  have HS3:Hid (StX w3 B sb most pb 0 dl dm pv tv C T sv wo M K) := HSt.out.keep HF3.out HI3.out (fun k hk hg => (HG.out k hg).2.1 hk)
  obtain ⟨⟨x0,x1,x2⟩,x3,x4,x5⟩ := box3 HXA.out.1
  obtain ⟨⟨y0,y1,y2⟩,y3,y4,y5⟩ := box3 HXA.out.2.1
  obtain ⟨⟨z0,z1,z2⟩,z3,z4,z5⟩ := box3 HXA.out.2.2.1
  have C5:Hid (Calls _ _ _ _ _) := push_any i cb m p2 q2 c2 r2 w3 HS3.out HCi.out (HS2.out.1.imm (Imm.of_below HXA.out.2.2.2)) hm hK hl HX9.out hiT hlT
  simp only [stV,htx2,hn2] at C5
  go_wp2_with fail
  refine C5.out.mono ?_
  rintro e w5 ⟨rfl,hs5,hf5⟩
  have hsz:∀ k,puF sb cb tv k → k < w.heap.size ∧ ¬ G k ∧ MutB w3 k := fun k hk => by
   have hst:stF sb dm pv tv C sv wo k := by
    rcases hk with e | e | hk
    ·exact .inl e
    ·exact .inr (.inr (.inr (.inl ⟨(cb,m),List.mem_of_getElem? HCi.out,e.symm⟩)))
    ·exact .inr (.inl hk)
   exact ⟨(HSt.out.mut hst).2.2,fun hg => (HG.out k hg).2.1 hst,(HS3.out.mut hst).1⟩
  have hn6:¬ puF sb cb tv w.heap.size := fun e => by have := (hsz _ e).1; omega
  have hn10:¬ puF sb cb tv w2.heap.size := fun e => by have := (hsz _ e).1; have := h1w.out; omega
  have HX5:Hid (stB w5 w.heap.size none 0 none 0 0 ∧ stB w5 w2.heap.size p2 tx2 q2 n2 c2) := ⟨HXA.out.1.frm hf5 hn6,HXA.out.2.2.1.frm hf5 hn10⟩
  have HI5:Hid (Imm w3 w5) := Imm.of_frm hf5 (fun k hk => (hsz k hk).2.2)
  have HS5:Hid (StX w5 B sb most pb 0 dl dm pv tv (C.set i (cb,m + 1)) (tkT T i r2) sv wo (M.set i r2) K) := hs5
  have HF5:Hid (Frm w w5 (fun k => G k ∨ puF sb cb tv k)) := (HF3.out.mono (fun k hk => .inl (.inl hk))).trans hf5 (fun k hk => .inl (.inr hk))
  have HQ5:Hid (Q w5) := HQ.out w3 w5 HQ3.out (fun k hk => hf5.block k (by have := (HG.out k hk).2.2; have := HF3.out.size; omega) (fun e => (hsz k e).2.1 hk))
  clear hs5 hf5 C5 x0 x1 x2 x3 x4 x5 y0 y1 y2 y3 y4 y5 z0 z1 z2 z3 z4 z5 hsz hn6 hn10
  obtain ⟨⟨x0,x1,x2⟩,x3,x4,x5⟩ := box3 HX5.out.1
  obtain ⟨⟨z0,z1,z2⟩,z3,z4,z5⟩ := box3 HX5.out.2
  go_wp2_with fail
  obtain ⟨hZ,hI,hF⟩ := st_store HX5.out.1 p2 tx2 q2 n2 c2
  generalize ((w5.setCell ⟨w.heap.size,0,none⟩ (.pointer p2)).setCell ⟨w.heap.size,1,none⟩ (.int .i64 tx2)).setCell ⟨w.heap.size,2,none⟩ (.slice q2 n2 c2) = w9 at *
  obtain ⟨⟨o0,o1,o2⟩,_⟩ := box3 hZ
  (try simp only [Exit.inBlock,Exit.then])
  refine bodyPost_ret (v := .agg #[.pointer p2,.int .i64 tx2,.slice q2 n2 c2]) (by simp [results,Tryz.results49,go_sem,o0,o1,o2]) rfl ?_
  have hst':∀ k,stF sb dm pv tv (C.set i (cb,m + 1)) sv wo k → stF sb dm pv tv C sv wo k := fun k hk => stF_set HCi.out hk
  exact ⟨⟨_,rfl,p2,q2,c2,by simp only [stV,htx2,hn2],((HS2.out.1.imm (Imm.of_below HXA.out.2.2.2)).imm HI5.out).imm hI⟩,HS5.out.keep hF hI (fun k hk e => by
   have := (HSt.out.mut (hst' k hk)).2.2
   have e':k = w.heap.size := e
   omega),HQ.out w5 w9 HQ5.out (fun k hk => hF.block k (by have := (HG.out k hk).2.2; have := HF5.out.size; omega) (fun e => by
   have e':k = w.heap.size := e
   have := (HG.out k hk).2.2
   omega)),HF5.out.trans hF (fun k hk => .inr (by rw [hk]; exact Nat.le_refl _))⟩

set_option maxHeartbeats 4000000 in
theorem turn5_no (fid:FuncId) (k1 k2 k3 k4 k5:Value) (i cb m:Nat) (r2:Rs) (G:Nat → Prop) (Q:World → Prop) (w:World) (h:StX w B sb most pb 0 dl dm pv tv C T sv wo M K) (hc:C[i]? = some (cb,m)) (_hK:K ≤ 9000000000000000000) (hl:C.length ≤ 65536) (him:i < M.length)
  (hin:∀ args w,(callFunc fid args).run Tryz.prog w = .ok (.enter fid args) w)
  (hG:∀ k,G k → MutB w k ∧ ¬ stF sb dm pv tv C sv wo k ∧ k < w.heap.size) (hQ:∀ wa wb,Q wa → (∀ k,G k → wb.heap[k]? = wa.heap[k]?) → Q wb)
  (HC:∀ w1 p q c,Below w.heap.size w w1 → StR w1 p q c M[i] → Calls Tryz.prog fid #[stV p q c M[i],k1,k2,k3,k4,k5] w1 fun e w2 => (∃ v2,e = .returned (.tuple #[v2,.bool false]) ∧ StV w2 v2 r2) ∧ Frm w1 w2 G ∧ Q w2) :
  Calls Tryz.prog 49 #[ptr1 sb,.int .i64 (i:Nat),.func (.func fid) #[] #[k1,k2,k3,k4,k5]] w fun e w' => (∃ v',e = .returned v' ∧ StV w' v' M[i]) ∧ StX w' B sb most pb 0 dl dm pv tv C T sv wo M K ∧ Q w' ∧ Frm w w' G := by
 have hil:i < C.length := (List.getElem?_eq_some_iff.1 hc).1
 have hci:C[i].1 = cb := by rw [(List.getElem?_eq_some_iff.1 hc).2]
 have HB0:Hid (Below w.heap.size w (w.alloc (.cells #[.pointer none,.int .i64 0,.slice none 0 0] 125))) := (Below.refl _ _).alloc (Nat.le_refl _) _
 have HX0:Hid (stB (w.alloc (.cells #[.pointer none,.int .i64 0,.slice none 0 0] 125)) w.heap.size none 0 none 0 0) := Box.new w _ _
 have C1:Hid (Calls _ _ _ _ _) := place_ok i (w.alloc (.cells #[.pointer none,.int .i64 0,.slice none 0 0] 125)) (h.on HB0.out) hil hl
 rw [hci] at C1
 obtain ⟨-,g,p,q,c,hc1,hg1,hs1⟩ := h.plc.cel i cb m M[i] hc (List.getElem?_eq_getElem him)
 have C2:Hid (Calls _ _ _ _ _) := load_any cb g m 1 p M[i].tx q M[i].W.length c none (w.alloc (.cells #[.pointer none,.int .i64 0,.slice none 0 0] 125)) (hc1.on HB0.out) ((HB0.out.block g (lt_of_block hg1)).trans hg1)
 have HC3:Hid (∀ w1,Below w.heap.size w w1 → Calls Tryz.prog fid #[stV p q c M[i],k1,k2,k3,k4,k5] w1 fun e w2 => (∃ v2,e = .returned (.tuple #[v2,.bool false]) ∧ StV w2 v2 r2) ∧ Frm w1 w2 G ∧ Q w2) := fun w1 h1 => HC w1 p q c h1 (hs1.imm (Imm.of_below h1))
 have HSt:Hid (StX w B sb most pb 0 dl dm pv tv C T sv wo M K) := h
 have HSR:Hid (StR w p q c M[i]) := hs1
 have HG:Hid (∀ k,G k → MutB w k ∧ ¬ stF sb dm pv tv C sv wo k ∧ k < w.heap.size) := hG
 have HQ:Hid (∀ wa wb,Q wa → (∀ k,G k → wb.heap[k]? = wa.heap[k]?) → Q wb) := hQ
 have HCi:Hid (C[i]? = some (cb,m)) := hc
 skip
 clear h hci hc1 hg1 hs1 HC hG hQ hc
 generalize M[i] = r at *
 obtain ⟨tx,htx⟩:∃ x,r.tx = x := ⟨_,rfl⟩
 obtain ⟨n,hn⟩:∃ x,r.W.length = x := ⟨_,rfl⟩
 simp only [stV,htx,hn] at C2 HC3
 go_enter Tryz.func49,Tryz.ntmps49
 go_wp2_with fail
 generalize (w.alloc (.cells #[.pointer none,.int .i64 0,.slice none 0 0] 125)) = w0 at *
 refine C1.out.mono ?_
 rintro e w9 ⟨rfl,hw⟩
 rw [hw]
 clear hw w9 C1
 go_wp2_with fail
 go_loopw [] (fun wr => wr = w0) (fun _ => 0)
 case atStart => rfl
 case round =>
  rw [hrel]
  clear hrel
  go_wp2_with fail
  refine C2.out.mono ?_
  rintro e w1 ⟨rfl,hb1⟩
  have h8:Below w1.heap.size w1 (w1.alloc (.cells #[.pointer p,.int .i64 tx,.slice q n c] 125)) := (Below.refl _ _).alloc (Nat.le_refl _) _
  have hb1w:Below w.heap.size w w1 := HB0.out.trans (hb1.mono HB0.out.size)
  have hb8:Below w.heap.size w (w1.alloc (.cells #[.pointer p,.int .i64 tx,.slice q n c] 125)) := hb1w.trans (h8.mono hb1w.size)
  have HX8:Hid (stB (w1.alloc (.cells #[.pointer p,.int .i64 tx,.slice q n c] 125)) w.heap.size none 0 none 0 0 ∧ stB (w1.alloc (.cells #[.pointer p,.int .i64 tx,.slice q n c] 125)) w1.heap.size p tx q n c ∧ Below w.heap.size w (w1.alloc (.cells #[.pointer p,.int .i64 tx,.slice q n c] 125)) ∧ w.heap.size < w1.heap.size) := ⟨(HX0.out.on hb1).on h8,Box.new _ _ _,hb8,(HX0.out.on hb1).lt⟩
  obtain ⟨⟨y0,y1,y2⟩,y3,y4,y5⟩ := box3 HX8.out.2.1
  clear hb1 h8 hb1w hb8 C2
  go_upto_region 3 with fail
  generalize (w1.alloc (.cells #[.pointer p,.int .i64 tx,.slice q n c] 125)) = wa at *
  go_wp2_with fail
  refine (HC3.out wa HX8.out.2.2.1).mono ?_
  rintro e w2 ⟨⟨v2,rfl,p2,q2,c2,rfl,hs2⟩,hf2,hq2⟩
  have hg6:¬ G w.heap.size := fun e => by have := (HG.out _ e).2.2; omega
  have hg8:¬ G w1.heap.size := fun e => by have := (HG.out _ e).2.2; have := HX8.out.2.2.2; omega
  have HI2:Hid (Imm w w2) := (Imm.of_below HX8.out.2.2.1).trans (Imm.of_frm hf2 (fun k hk => by
   intro cs T' z hkk
   rw [HX8.out.2.2.1.block k (HG.out k hk).2.2] at hkk
   exact (HG.out k hk).1 cs T' z hkk))
  have HF2:Hid (Frm w w2 G) := (Frm.of_below HX8.out.2.2.1).trans hf2 (fun k hk => .inl hk)
  have HX2:Hid (stB w2 w.heap.size none 0 none 0 0 ∧ stB w2 w1.heap.size p tx q n c) := ⟨HX8.out.1.frm hf2 hg6,HX8.out.2.1.frm hf2 hg8⟩
  have HS2:Hid (StR w2 p2 q2 c2 r2 ∧ Q w2) := ⟨hs2,hq2⟩
  have h1w:Hid (w.heap.size < w1.heap.size ∧ w1.heap.size < w2.heap.size) := ⟨HX8.out.2.2.2,Nat.lt_of_lt_of_le HX8.out.2.1.lt hf2.size⟩
  obtain ⟨tx2,htx2⟩:∃ x,r2.tx = x := ⟨_,rfl⟩
  obtain ⟨n2,hn2⟩:∃ x,r2.W.length = x := ⟨_,rfl⟩
  simp only [stV,htx2,hn2]
  clear hf2 hq2 hs2 HC3 HX8 y0 y1 y2 y3 y4 y5 hg6 hg8
  have h10:Below w2.heap.size w2 (w2.alloc (.cells #[.pointer p2,.int .i64 tx2,.slice q2 n2 c2] 125)) := (Below.refl _ _).alloc (Nat.le_refl _) _
  have HXA:Hid (stB (w2.alloc (.cells #[.pointer p2,.int .i64 tx2,.slice q2 n2 c2] 125)) w.heap.size none 0 none 0 0 ∧ stB (w2.alloc (.cells #[.pointer p2,.int .i64 tx2,.slice q2 n2 c2] 125)) w1.heap.size p tx q n c ∧ stB (w2.alloc (.cells #[.pointer p2,.int .i64 tx2,.slice q2 n2 c2] 125)) w2.heap.size p2 tx2 q2 n2 c2 ∧ Below w2.heap.size w2 (w2.alloc (.cells #[.pointer p2,.int .i64 tx2,.slice q2 n2 c2] 125))) := ⟨HX2.out.1.on h10,HX2.out.2.on h10,Box.new _ _ _,h10⟩
  clear h10
  go_upto_region 4 with fail
  generalize (w2.alloc (.cells #[.pointer p2,.int .i64 tx2,.slice q2 n2 c2] 125)) = w3 at *
  have HI3:Hid (Imm w w3) := HI2.out.trans (Imm.of_below HXA.out.2.2.2)
  have HF3:Hid (Frm w w3 G) := HF2.out.trans (Frm.of_below (F := none1) HXA.out.2.2.2) (fun k hk => hk.elim)
  have HQ3:Hid (Q w3) := HQ.out w2 w3 HS2.out.2 (fun k hk => HXA.out.2.2.2.block k (by have := (HG.out k hk).2.2; have := h1w.out; omega))
  have HS3:Hid (StX w3 B sb most pb 0 dl dm pv tv C T sv wo M K) := HSt.out.keep HF3.out HI3.out (fun k hk hg => (HG.out k hg).2.1 hk)
  obtain ⟨⟨x0,x1,x2⟩,x3,x4,x5⟩ := box3 HXA.out.1
  obtain ⟨⟨y0,y1,y2⟩,y3,y4,y5⟩ := box3 HXA.out.2.1
  obtain ⟨⟨z0,z1,z2⟩,z3,z4,z5⟩ := box3 HXA.out.2.2.1
  go_wp2_with fail
  obtain ⟨hZ,hI,hF⟩ := st_store HXA.out.1 p tx q n c
  generalize ((w3.setCell ⟨w.heap.size,0,none⟩ (.pointer p)).setCell ⟨w.heap.size,1,none⟩ (.int .i64 tx)).setCell ⟨w.heap.size,2,none⟩ (.slice q n c) = w9 at *
  obtain ⟨⟨o0,o1,o2⟩,_⟩ := box3 hZ
  (try simp only [Exit.inBlock,Exit.then])
  refine bodyPost_ret (v := .agg #[.pointer p,.int .i64 tx,.slice q n c]) (by simp [results,Tryz.results49,go_sem,o0,o1,o2]) rfl ?_
  have hlt := HSt.out.blk.lt
  exact ⟨⟨_,rfl,p,q,c,by simp only [stV,htx,hn],HSR.out.imm (HI3.out.trans hI)⟩,HS3.out.keep hF hI (fun k hk e => by
   have := (HSt.out.mut hk).2.2
   have e':k = w.heap.size := e
   omega),HQ.out w3 w9 HQ3.out (fun k hk => hF.block k (by have := (HG.out k hk).2.2; have := HF3.out.size; omega) (fun e => by
   have e':k = w.heap.size := e
   have := (HG.out k hk).2.2
   omega)),HF3.out.trans hF (fun k hk => .inr (by rw [hk]; exact Nat.le_refl _))⟩

set_option maxHeartbeats 4000000 in
theorem turn5_yes (fid:FuncId) (k1 k2 k3 k4 k5:Value) (i cb m:Nat) (r2:Rs) (G:Nat → Prop) (Q:World → Prop) (w:World) (h:StX w B sb most pb 0 dl dm pv tv C T sv wo M K) (hc:C[i]? = some (cb,m)) (hK:K ≤ 9000000000000000000) (hl:C.length ≤ 65536) (him:i < M.length) (hm:m + 1 ≤ K) (hx:∀ x ∈ T,x < 18446744073709551616) (hiT:i / 64 < T.length) (hlT:T.length ≤ 1024)
  (hin:∀ args w,(callFunc fid args).run Tryz.prog w = .ok (.enter fid args) w)
  (hG:∀ k,G k → MutB w k ∧ ¬ stF sb dm pv tv C sv wo k ∧ k < w.heap.size) (hQ:∀ wa wb,Q wa → (∀ k,G k → wb.heap[k]? = wa.heap[k]?) → Q wb)
  (HC:∀ w1 p q c,Below w.heap.size w w1 → StR w1 p q c M[i] → Calls Tryz.prog fid #[stV p q c M[i],k1,k2,k3,k4,k5] w1 fun e w2 => (∃ v2,e = .returned (.tuple #[v2,.bool true]) ∧ StV w2 v2 r2) ∧ Frm w1 w2 G ∧ Q w2) :
  Calls Tryz.prog 49 #[ptr1 sb,.int .i64 (i:Nat),.func (.func fid) #[] #[k1,k2,k3,k4,k5]] w fun e w' => (∃ v',e = .returned v' ∧ StV w' v' r2) ∧ StX w' B sb most pb 0 dl dm pv tv (C.set i (cb,m + 1)) (tkT T i r2) sv wo (M.set i r2) K ∧ Q w' ∧ Frm w w' (fun k => G k ∨ puF sb cb tv k) := by
 have hil:i < C.length := (List.getElem?_eq_some_iff.1 hc).1
 have hci:C[i].1 = cb := by rw [(List.getElem?_eq_some_iff.1 hc).2]
 have HB0:Hid (Below w.heap.size w (w.alloc (.cells #[.pointer none,.int .i64 0,.slice none 0 0] 125))) := (Below.refl _ _).alloc (Nat.le_refl _) _
 have HX0:Hid (stB (w.alloc (.cells #[.pointer none,.int .i64 0,.slice none 0 0] 125)) w.heap.size none 0 none 0 0) := Box.new w _ _
 have C1:Hid (Calls _ _ _ _ _) := place_ok i (w.alloc (.cells #[.pointer none,.int .i64 0,.slice none 0 0] 125)) (h.on HB0.out) hil hl
 rw [hci] at C1
 obtain ⟨-,g,p,q,c,hc1,hg1,hs1⟩ := h.plc.cel i cb m M[i] hc (List.getElem?_eq_getElem him)
 have C2:Hid (Calls _ _ _ _ _) := load_any cb g m 1 p M[i].tx q M[i].W.length c none (w.alloc (.cells #[.pointer none,.int .i64 0,.slice none 0 0] 125)) (hc1.on HB0.out) ((HB0.out.block g (lt_of_block hg1)).trans hg1)
 have HC3:Hid (∀ w1,Below w.heap.size w w1 → Calls Tryz.prog fid #[stV p q c M[i],k1,k2,k3,k4,k5] w1 fun e w2 => (∃ v2,e = .returned (.tuple #[v2,.bool true]) ∧ StV w2 v2 r2) ∧ Frm w1 w2 G ∧ Q w2) := fun w1 h1 => HC w1 p q c h1 (hs1.imm (Imm.of_below h1))
 have HSt:Hid (StX w B sb most pb 0 dl dm pv tv C T sv wo M K) := h
 have HSR:Hid (StR w p q c M[i]) := hs1
 have HG:Hid (∀ k,G k → MutB w k ∧ ¬ stF sb dm pv tv C sv wo k ∧ k < w.heap.size) := hG
 have HQ:Hid (∀ wa wb,Q wa → (∀ k,G k → wb.heap[k]? = wa.heap[k]?) → Q wb) := hQ
 have HCi:Hid (C[i]? = some (cb,m)) := hc
 have HX9:Hid (∀ x ∈ T,x < 18446744073709551616) := hx
 clear h hci hc1 hg1 hs1 HC hG hQ hc hx
 generalize M[i] = r at *
 obtain ⟨tx,htx⟩:∃ x,r.tx = x := ⟨_,rfl⟩
 obtain ⟨n,hn⟩:∃ x,r.W.length = x := ⟨_,rfl⟩
 simp only [stV,htx,hn] at C2 HC3
 go_enter Tryz.func49,Tryz.ntmps49
 go_wp2_with fail
 generalize (w.alloc (.cells #[.pointer none,.int .i64 0,.slice none 0 0] 125)) = w0 at *
 refine C1.out.mono ?_
 rintro e w9 ⟨rfl,hw⟩
 rw [hw]
 clear hw w9 C1
 go_wp2_with fail
 go_loopw [] (fun wr => wr = w0) (fun _ => 0)
 case atStart => rfl
 case round =>
  rw [hrel]
  clear hrel
  go_wp2_with fail
  refine C2.out.mono ?_
  rintro e w1 ⟨rfl,hb1⟩
  have h8:Below w1.heap.size w1 (w1.alloc (.cells #[.pointer p,.int .i64 tx,.slice q n c] 125)) := (Below.refl _ _).alloc (Nat.le_refl _) _
  have hb1w:Below w.heap.size w w1 := HB0.out.trans (hb1.mono HB0.out.size)
  have hb8:Below w.heap.size w (w1.alloc (.cells #[.pointer p,.int .i64 tx,.slice q n c] 125)) := hb1w.trans (h8.mono hb1w.size)
  have HX8:Hid (stB (w1.alloc (.cells #[.pointer p,.int .i64 tx,.slice q n c] 125)) w.heap.size none 0 none 0 0 ∧ stB (w1.alloc (.cells #[.pointer p,.int .i64 tx,.slice q n c] 125)) w1.heap.size p tx q n c ∧ Below w.heap.size w (w1.alloc (.cells #[.pointer p,.int .i64 tx,.slice q n c] 125)) ∧ w.heap.size < w1.heap.size) := ⟨(HX0.out.on hb1).on h8,Box.new _ _ _,hb8,(HX0.out.on hb1).lt⟩
  obtain ⟨⟨y0,y1,y2⟩,y3,y4,y5⟩ := box3 HX8.out.2.1
  clear hb1 h8 hb1w hb8 C2
  go_upto_region 3 with fail
  generalize (w1.alloc (.cells #[.pointer p,.int .i64 tx,.slice q n c] 125)) = wa at *
  go_wp2_with fail
  refine (HC3.out wa HX8.out.2.2.1).mono ?_
  rintro e w2 ⟨⟨v2,rfl,p2,q2,c2,rfl,hs2⟩,hf2,hq2⟩
  have hg6:¬ G w.heap.size := fun e => by have := (HG.out _ e).2.2; omega
  have hg8:¬ G w1.heap.size := fun e => by have := (HG.out _ e).2.2; have := HX8.out.2.2.2; omega
  have HI2:Hid (Imm w w2) := (Imm.of_below HX8.out.2.2.1).trans (Imm.of_frm hf2 (fun k hk => by
   intro cs T' z hkk
   rw [HX8.out.2.2.1.block k (HG.out k hk).2.2] at hkk
   exact (HG.out k hk).1 cs T' z hkk))
  have HF2:Hid (Frm w w2 G) := (Frm.of_below HX8.out.2.2.1).trans hf2 (fun k hk => .inl hk)
  have HX2:Hid (stB w2 w.heap.size none 0 none 0 0 ∧ stB w2 w1.heap.size p tx q n c) := ⟨HX8.out.1.frm hf2 hg6,HX8.out.2.1.frm hf2 hg8⟩
  have HS2:Hid (StR w2 p2 q2 c2 r2 ∧ Q w2) := ⟨hs2,hq2⟩
  have h1w:Hid (w.heap.size < w1.heap.size ∧ w1.heap.size < w2.heap.size) := ⟨HX8.out.2.2.2,Nat.lt_of_lt_of_le HX8.out.2.1.lt hf2.size⟩
  obtain ⟨tx2,htx2⟩:∃ x,r2.tx = x := ⟨_,rfl⟩
  obtain ⟨n2,hn2⟩:∃ x,r2.W.length = x := ⟨_,rfl⟩
  simp only [stV,htx2,hn2]
  clear hf2 hq2 hs2 HC3 HX8 y0 y1 y2 y3 y4 y5 hg6 hg8
  have h10:Below w2.heap.size w2 (w2.alloc (.cells #[.pointer p2,.int .i64 tx2,.slice q2 n2 c2] 125)) := (Below.refl _ _).alloc (Nat.le_refl _) _
  have HXA:Hid (stB (w2.alloc (.cells #[.pointer p2,.int .i64 tx2,.slice q2 n2 c2] 125)) w.heap.size none 0 none 0 0 ∧ stB (w2.alloc (.cells #[.pointer p2,.int .i64 tx2,.slice q2 n2 c2] 125)) w1.heap.size p tx q n c ∧ stB (w2.alloc (.cells #[.pointer p2,.int .i64 tx2,.slice q2 n2 c2] 125)) w2.heap.size p2 tx2 q2 n2 c2 ∧ Below w2.heap.size w2 (w2.alloc (.cells #[.pointer p2,.int .i64 tx2,.slice q2 n2 c2] 125))) := ⟨HX2.out.1.on h10,HX2.out.2.on h10,Box.new _ _ _,h10⟩
  clear h10
  go_upto_region 4 with fail
  generalize (w2.alloc (.cells #[.pointer p2,.int .i64 tx2,.slice q2 n2 c2] 125)) = w3 at *
  have HI3:Hid (Imm w w3) := HI2.out.trans (Imm.of_below HXA.out.2.2.2)
  have HF3:Hid (Frm w w3 G) := HF2.out.trans (Frm.of_below (F := none1) HXA.out.2.2.2) (fun k hk => hk.elim)
  have HQ3:Hid (Q w3) := HQ.out w2 w3 HS2.out.2 (fun k hk => HXA.out.2.2.2.block k (by have := (HG.out k hk).2.2; have := h1w.out; omega))
  have HS3:Hid (StX w3 B sb most pb 0 dl dm pv tv C T sv wo M K) := HSt.out.keep HF3.out HI3.out (fun k hk hg => (HG.out k hg).2.1 hk)
  obtain ⟨⟨x0,x1,x2⟩,x3,x4,x5⟩ := box3 HXA.out.1
  obtain ⟨⟨y0,y1,y2⟩,y3,y4,y5⟩ := box3 HXA.out.2.1
  obtain ⟨⟨z0,z1,z2⟩,z3,z4,z5⟩ := box3 HXA.out.2.2.1
  have C5:Hid (Calls _ _ _ _ _) := push_any i cb m p2 q2 c2 r2 w3 HS3.out HCi.out (HS2.out.1.imm (Imm.of_below HXA.out.2.2.2)) hm hK hl HX9.out hiT hlT
  simp only [stV,htx2,hn2] at C5
  go_wp2_with fail
  refine C5.out.mono ?_
  rintro e w5 ⟨rfl,hs5,hf5⟩
  have hsz:∀ k,puF sb cb tv k → k < w.heap.size ∧ ¬ G k ∧ MutB w3 k := fun k hk => by
   have hst:stF sb dm pv tv C sv wo k := by
    rcases hk with e | e | hk
    ·exact .inl e
    ·exact .inr (.inr (.inr (.inl ⟨(cb,m),List.mem_of_getElem? HCi.out,e.symm⟩)))
    ·exact .inr (.inl hk)
   exact ⟨(HSt.out.mut hst).2.2,fun hg => (HG.out k hg).2.1 hst,(HS3.out.mut hst).1⟩
  have hn6:¬ puF sb cb tv w.heap.size := fun e => by have := (hsz _ e).1; omega
  have hn10:¬ puF sb cb tv w2.heap.size := fun e => by have := (hsz _ e).1; have := h1w.out; omega
  have HX5:Hid (stB w5 w.heap.size none 0 none 0 0 ∧ stB w5 w2.heap.size p2 tx2 q2 n2 c2) := ⟨HXA.out.1.frm hf5 hn6,HXA.out.2.2.1.frm hf5 hn10⟩
  have HI5:Hid (Imm w3 w5) := Imm.of_frm hf5 (fun k hk => (hsz k hk).2.2)
  have HS5:Hid (StX w5 B sb most pb 0 dl dm pv tv (C.set i (cb,m + 1)) (tkT T i r2) sv wo (M.set i r2) K) := hs5
  have HF5:Hid (Frm w w5 (fun k => G k ∨ puF sb cb tv k)) := (HF3.out.mono (fun k hk => .inl (.inl hk))).trans hf5 (fun k hk => .inl (.inr hk))
  have HQ5:Hid (Q w5) := HQ.out w3 w5 HQ3.out (fun k hk => hf5.block k (by have := (HG.out k hk).2.2; have := HF3.out.size; omega) (fun e => (hsz k e).2.1 hk))
  clear hs5 hf5 C5 x0 x1 x2 x3 x4 x5 y0 y1 y2 y3 y4 y5 z0 z1 z2 z3 z4 z5 hsz hn6 hn10
  obtain ⟨⟨x0,x1,x2⟩,x3,x4,x5⟩ := box3 HX5.out.1
  obtain ⟨⟨z0,z1,z2⟩,z3,z4,z5⟩ := box3 HX5.out.2
  go_wp2_with fail
  obtain ⟨hZ,hI,hF⟩ := st_store HX5.out.1 p2 tx2 q2 n2 c2
  generalize ((w5.setCell ⟨w.heap.size,0,none⟩ (.pointer p2)).setCell ⟨w.heap.size,1,none⟩ (.int .i64 tx2)).setCell ⟨w.heap.size,2,none⟩ (.slice q2 n2 c2) = w9 at *
  obtain ⟨⟨o0,o1,o2⟩,_⟩ := box3 hZ
  (try simp only [Exit.inBlock,Exit.then])
  refine bodyPost_ret (v := .agg #[.pointer p2,.int .i64 tx2,.slice q2 n2 c2]) (by simp [results,Tryz.results49,go_sem,o0,o1,o2]) rfl ?_
  have hst':∀ k,stF sb dm pv tv (C.set i (cb,m + 1)) sv wo k → stF sb dm pv tv C sv wo k := fun k hk => stF_set HCi.out hk
  exact ⟨⟨_,rfl,p2,q2,c2,by simp only [stV,htx2,hn2],((HS2.out.1.imm (Imm.of_below HXA.out.2.2.2)).imm HI5.out).imm hI⟩,HS5.out.keep hF hI (fun k hk e => by
   have := (HSt.out.mut (hst' k hk)).2.2
   have e':k = w.heap.size := e
   omega),HQ.out w5 w9 HQ5.out (fun k hk => hF.block k (by have := (HG.out k hk).2.2; have := HF5.out.size; omega) (fun e => by
   have e':k = w.heap.size := e
   have := (HG.out k hk).2.2
   omega)),HF5.out.trans hF (fun k hk => .inr (by rw [hk]; exact Nat.le_refl _))⟩
end

end Go.Proofs.YtcibcfghkidncaaGreatDoor
