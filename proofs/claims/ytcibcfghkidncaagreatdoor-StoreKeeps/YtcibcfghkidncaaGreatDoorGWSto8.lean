/- Walks of a store: what it hands to turn. Walks of a store: turn, in one word. A store in memory: a desk is turned. Walks of a store: keep. -/
import Derived.Test.YtcibcfghkidncaaGreatDoorGWStt2
import Derived.Test.YtcibcfghkidncaaGreatDoorGWSto2
import Derived.Test.YtcibcfghkidncaaGreatDoorGMSto2
import Derived.Test.YtcibcfghkidncaaGreatDoorGWSto1
namespace Go.Proofs.YtcibcfghkidncaaGreatDoor
open Go.RowKit
set_option maxRecDepth 100000

theorem imm_drew {w w':World} (h:Imm w w'):Imm w w'.drew := ⟨h.size,h.blk⟩
theorem Box.cell0 {w:World} {g:Nat} {x:Value} {T:TypeId} (h:Box w g #[x] T):w.cell? ⟨g,0,none⟩ = some x ∧ w.frozen? ⟨g,0,none⟩ = false := by
 unfold Box at h
 constructor
 ·simp [World.cell?,h]
 ·simp [World.frozen?,h]

set_option maxHeartbeats 2000000 in
theorem cback_any (p q:Option Addr) (c K:Nat) (r:Rs) (v:Rw) (s:Int) (lb:Nat) (w:World) (h:StR w p q c r) (hv:lastW r = some v) (hk:OkR K r) (hK:K ≤ 3518437208882)  (hc:w.cell? ⟨lb,0,none⟩ = some (.int .i64 s)) (hcl:lb < w.heap.size) :
  Calls Tryz.prog 50 #[stV p q c r,ptr1 lb] w fun e w' => (∃ v',e = .returned (.tuple #[v',.bool (!decide (v.n < s))]) ∧ StV w' v' (bakR s r)) ∧ Below w.heap.size w w' := by
 have HX0 := two_new w #[.pointer p,.int .i64 r.tx,.slice q r.W.length c] #[.pointer none,.int .i64 0,.slice none 0 0] 125 125
 have C1:Hid (Calls _ _ _ _ _) := back_st p q c K r v s ((w.alloc (.cells #[.pointer p,.int .i64 r.tx,.slice q r.W.length c] 125)).alloc (.cells #[.pointer none,.int .i64 0,.slice none 0 0] 125)) (h.imm (Imm.of_below HX0.2.2.1)) hv hk hK
 have a3:((w.alloc (.cells #[.pointer p,.int .i64 r.tx,.slice q r.W.length c] 125)).alloc (.cells #[.pointer none,.int .i64 0,.slice none 0 0] 125)).cell? ⟨lb,0,none⟩ = some (.int .i64 s) := (HX0.2.2.1.cell (p := ⟨lb,0,none⟩) hcl).trans hc
 clear h hv hk hc
 simp only [stV] at C1 ⊢
 generalize bakR s r = r3 at *
 generalize htx:r.tx = tx at *
 generalize hn:r.W.length = n at *
 generalize (!decide (v.n < s)) = bb at *
 have HX:Hid (Box ((w.alloc (.cells #[.pointer p,.int .i64 tx,.slice q n c] 125)).alloc (.cells #[.pointer none,.int .i64 0,.slice none 0 0] 125)) w.heap.size #[.pointer p,.int .i64 tx,.slice q n c] 125 ∧ Box ((w.alloc (.cells #[.pointer p,.int .i64 tx,.slice q n c] 125)).alloc (.cells #[.pointer none,.int .i64 0,.slice none 0 0] 125)) (w.heap.size + 1) #[.pointer none,.int .i64 0,.slice none 0 0] 125 ∧ Below w.heap.size w ((w.alloc (.cells #[.pointer p,.int .i64 tx,.slice q n c] 125)).alloc (.cells #[.pointer none,.int .i64 0,.slice none 0 0] 125)) ∧ ((w.alloc (.cells #[.pointer p,.int .i64 tx,.slice q n c] 125)).alloc (.cells #[.pointer none,.int .i64 0,.slice none 0 0] 125)).heap.size = w.heap.size + 2) := HX0
 obtain ⟨⟨x0,x1,x2⟩,x3,x4,x5⟩ := box3 HX.out.1
 clear HX0
 go_enter Tryz.func50,Tryz.ntmps50
 go_wp2_with fail
 generalize ((w.alloc (.cells #[.pointer p,.int .i64 tx,.slice q n c] 125)).alloc (.cells #[.pointer none,.int .i64 0,.slice none 0 0] 125)) = w2 at *
 refine C1.out.mono ?_
 rintro e w3 ⟨⟨v3,rfl,p3,q3,c3,rfl,hs3⟩,hb3⟩
 have HB3:Hid (Below w.heap.size w w3) := HX.out.2.2.1.trans (hb3.mono HX.out.2.2.1.size)
 have HX3:Hid (stB w3 (w.heap.size + 1) none 0 none 0 0) := HX.out.2.1.on hb3
 have HS3:Hid (StR w3 p3 q3 c3 r3) := hs3
 obtain ⟨⟨y0,y1,y2⟩,y3,y4,y5⟩ := box3 HX3.out
 clear hb3 hs3 C1 HX x0 x1 x2 x3 x4 x5 a3
 obtain ⟨tx3,htx3⟩:∃ x,r3.tx = x := ⟨_,rfl⟩
 obtain ⟨n3,hn3⟩:∃ x,r3.W.length = x := ⟨_,rfl⟩
 simp only [stV,htx3,hn3]
 go_wp2_with fail
 obtain ⟨hZ,hI,hF⟩ := st_store HX3.out p3 tx3 q3 n3 c3
 generalize ((w3.setCell ⟨w.heap.size + 1,0,none⟩ (.pointer p3)).setCell ⟨w.heap.size + 1,1,none⟩ (.int .i64 tx3)).setCell ⟨w.heap.size + 1,2,none⟩ (.slice q3 n3 c3) = w9 at *
 obtain ⟨⟨z0,z1,z2⟩,_⟩ := box3 hZ
 (try simp only [Exit.inBlock,Exit.then])
 refine bodyPost_ret (v := .tuple #[.agg #[.pointer p3,.int .i64 tx3,.slice q3 n3 c3],.bool bb]) (by simp [results,Tryz.results50,go_sem,z0,z1,z2]) rfl ?_
 exact ⟨⟨_,rfl,p3,q3,c3,by simp only [stV,htx3,hn3],HS3.out.imm hI⟩,HB3.out.trans (hF.below HB3.out.size (fun k hk => by rw [hk]; exact Nat.le_succ _))⟩

set_option maxHeartbeats 2000000 in
theorem cfold_any (p q:Option Addr) (c K:Nat) (r:Rs) (v:Rw) (s:Int) (lb:Nat) (w:World) (h:StR w p q c r) (hv:lastW r = some v) (hk:OkR K r) (hK:K ≤ 3518437208882) (hs:1 ≤ s) (hs2:s ≤ 9223372036854775807) (hc:w.cell? ⟨lb,0,none⟩ = some (.int .i64 s)) (hcl:lb < w.heap.size) :
  Calls Tryz.prog 71 #[stV p q c r,ptr1 lb] w fun e w' => (∃ v',e = .returned (.tuple #[v',.bool (!decide (v.n < s))]) ∧ StV w' v' (fldR s r)) ∧ Below w.heap.size w w' := by
 have HX0 := two_new w #[.pointer p,.int .i64 r.tx,.slice q r.W.length c] #[.pointer none,.int .i64 0,.slice none 0 0] 125 125
 have C1:Hid (Calls _ _ _ _ _) := fold_st p q c K r v s ((w.alloc (.cells #[.pointer p,.int .i64 r.tx,.slice q r.W.length c] 125)).alloc (.cells #[.pointer none,.int .i64 0,.slice none 0 0] 125)) (h.imm (Imm.of_below HX0.2.2.1)) hv hk hK hs hs2
 have a3:((w.alloc (.cells #[.pointer p,.int .i64 r.tx,.slice q r.W.length c] 125)).alloc (.cells #[.pointer none,.int .i64 0,.slice none 0 0] 125)).cell? ⟨lb,0,none⟩ = some (.int .i64 s) := (HX0.2.2.1.cell (p := ⟨lb,0,none⟩) hcl).trans hc
 clear h hv hk hc
 simp only [stV] at C1 ⊢
 generalize fldR s r = r3 at *
 generalize htx:r.tx = tx at *
 generalize hn:r.W.length = n at *
 generalize (!decide (v.n < s)) = bb at *
 have HX:Hid (Box ((w.alloc (.cells #[.pointer p,.int .i64 tx,.slice q n c] 125)).alloc (.cells #[.pointer none,.int .i64 0,.slice none 0 0] 125)) w.heap.size #[.pointer p,.int .i64 tx,.slice q n c] 125 ∧ Box ((w.alloc (.cells #[.pointer p,.int .i64 tx,.slice q n c] 125)).alloc (.cells #[.pointer none,.int .i64 0,.slice none 0 0] 125)) (w.heap.size + 1) #[.pointer none,.int .i64 0,.slice none 0 0] 125 ∧ Below w.heap.size w ((w.alloc (.cells #[.pointer p,.int .i64 tx,.slice q n c] 125)).alloc (.cells #[.pointer none,.int .i64 0,.slice none 0 0] 125)) ∧ ((w.alloc (.cells #[.pointer p,.int .i64 tx,.slice q n c] 125)).alloc (.cells #[.pointer none,.int .i64 0,.slice none 0 0] 125)).heap.size = w.heap.size + 2) := HX0
 obtain ⟨⟨x0,x1,x2⟩,x3,x4,x5⟩ := box3 HX.out.1
 clear HX0
 go_enter Tryz.func71,Tryz.ntmps71
 go_wp2_with fail
 generalize ((w.alloc (.cells #[.pointer p,.int .i64 tx,.slice q n c] 125)).alloc (.cells #[.pointer none,.int .i64 0,.slice none 0 0] 125)) = w2 at *
 refine C1.out.mono ?_
 rintro e w3 ⟨⟨v3,rfl,p3,q3,c3,rfl,hs3⟩,hb3⟩
 have HB3:Hid (Below w.heap.size w w3) := HX.out.2.2.1.trans (hb3.mono HX.out.2.2.1.size)
 have HX3:Hid (stB w3 (w.heap.size + 1) none 0 none 0 0) := HX.out.2.1.on hb3
 have HS3:Hid (StR w3 p3 q3 c3 r3) := hs3
 obtain ⟨⟨y0,y1,y2⟩,y3,y4,y5⟩ := box3 HX3.out
 clear hb3 hs3 C1 HX x0 x1 x2 x3 x4 x5 a3
 obtain ⟨tx3,htx3⟩:∃ x,r3.tx = x := ⟨_,rfl⟩
 obtain ⟨n3,hn3⟩:∃ x,r3.W.length = x := ⟨_,rfl⟩
 simp only [stV,htx3,hn3]
 go_wp2_with fail
 obtain ⟨hZ,hI,hF⟩ := st_store HX3.out p3 tx3 q3 n3 c3
 generalize ((w3.setCell ⟨w.heap.size + 1,0,none⟩ (.pointer p3)).setCell ⟨w.heap.size + 1,1,none⟩ (.int .i64 tx3)).setCell ⟨w.heap.size + 1,2,none⟩ (.slice q3 n3 c3) = w9 at *
 obtain ⟨⟨z0,z1,z2⟩,_⟩ := box3 hZ
 (try simp only [Exit.inBlock,Exit.then])
 refine bodyPost_ret (v := .tuple #[.agg #[.pointer p3,.int .i64 tx3,.slice q3 n3 c3],.bool bb]) (by simp [results,Tryz.results71,go_sem,z0,z1,z2]) rfl ?_
 exact ⟨⟨_,rfl,p3,q3,c3,by simp only [stV,htx3,hn3],HS3.out.imm hI⟩,HB3.out.trans (hF.below HB3.out.size (fun k hk => by rw [hk]; exact Nat.le_succ _))⟩

set_option maxHeartbeats 2000000 in
theorem csettle_any (p q:Option Addr) (c K:Nat) (r:Rs) (v:Rw) (s:Int) (lb:Nat) (w:World) (h:StR w p q c r) (hv:lastW r = some v) (hk:OkR K r) (hK:K ≤ 3518437208882)  (hc:w.cell? ⟨lb,0,none⟩ = some (.int .u64 s)) (hcl:lb < w.heap.size) :
  Calls Tryz.prog 75 #[stV p q c r,ptr1 lb] w fun e w' => (∃ v',e = .returned (.tuple #[v',.bool true]) ∧ StV w' v' (setR s r)) ∧ Below w.heap.size w w' := by
 have HX0 := two_new w #[.pointer p,.int .i64 r.tx,.slice q r.W.length c] #[.pointer none,.int .i64 0,.slice none 0 0] 125 125
 have C1:Hid (Calls _ _ _ _ _) := settle_st p q c K r v s ((w.alloc (.cells #[.pointer p,.int .i64 r.tx,.slice q r.W.length c] 125)).alloc (.cells #[.pointer none,.int .i64 0,.slice none 0 0] 125)) (h.imm (Imm.of_below HX0.2.2.1)) hv hk hK
 have a3:((w.alloc (.cells #[.pointer p,.int .i64 r.tx,.slice q r.W.length c] 125)).alloc (.cells #[.pointer none,.int .i64 0,.slice none 0 0] 125)).cell? ⟨lb,0,none⟩ = some (.int .u64 s) := (HX0.2.2.1.cell (p := ⟨lb,0,none⟩) hcl).trans hc
 clear h hv hk hc
 simp only [stV] at C1 ⊢
 generalize setR s r = r3 at *
 generalize htx:r.tx = tx at *
 generalize hn:r.W.length = n at *
 skip
 have HX:Hid (Box ((w.alloc (.cells #[.pointer p,.int .i64 tx,.slice q n c] 125)).alloc (.cells #[.pointer none,.int .i64 0,.slice none 0 0] 125)) w.heap.size #[.pointer p,.int .i64 tx,.slice q n c] 125 ∧ Box ((w.alloc (.cells #[.pointer p,.int .i64 tx,.slice q n c] 125)).alloc (.cells #[.pointer none,.int .i64 0,.slice none 0 0] 125)) (w.heap.size + 1) #[.pointer none,.int .i64 0,.slice none 0 0] 125 ∧ Below w.heap.size w ((w.alloc (.cells #[.pointer p,.int .i64 tx,.slice q n c] 125)).alloc (.cells #[.pointer none,.int .i64 0,.slice none 0 0] 125)) ∧ ((w.alloc (.cells #[.pointer p,.int .i64 tx,.slice q n c] 125)).alloc (.cells #[.pointer none,.int .i64 0,.slice none 0 0] 125)).heap.size = w.heap.size + 2) := HX0
 obtain ⟨⟨x0,x1,x2⟩,x3,x4,x5⟩ := box3 HX.out.1
 clear HX0
 go_enter Tryz.func75,Tryz.ntmps75
 go_wp2_with fail
 generalize ((w.alloc (.cells #[.pointer p,.int .i64 tx,.slice q n c] 125)).alloc (.cells #[.pointer none,.int .i64 0,.slice none 0 0] 125)) = w2 at *
 refine C1.out.mono ?_
 rintro e w3 ⟨⟨v3,rfl,p3,q3,c3,rfl,hs3⟩,hb3⟩
 have HB3:Hid (Below w.heap.size w w3) := HX.out.2.2.1.trans (hb3.mono HX.out.2.2.1.size)
 have HX3:Hid (stB w3 (w.heap.size + 1) none 0 none 0 0) := HX.out.2.1.on hb3
 have HS3:Hid (StR w3 p3 q3 c3 r3) := hs3
 obtain ⟨⟨y0,y1,y2⟩,y3,y4,y5⟩ := box3 HX3.out
 clear hb3 hs3 C1 HX x0 x1 x2 x3 x4 x5 a3
 obtain ⟨tx3,htx3⟩:∃ x,r3.tx = x := ⟨_,rfl⟩
 obtain ⟨n3,hn3⟩:∃ x,r3.W.length = x := ⟨_,rfl⟩
 simp only [stV,htx3,hn3]
 go_wp2_with fail
 obtain ⟨hZ,hI,hF⟩ := st_store HX3.out p3 tx3 q3 n3 c3
 generalize ((w3.setCell ⟨w.heap.size + 1,0,none⟩ (.pointer p3)).setCell ⟨w.heap.size + 1,1,none⟩ (.int .i64 tx3)).setCell ⟨w.heap.size + 1,2,none⟩ (.slice q3 n3 c3) = w9 at *
 obtain ⟨⟨z0,z1,z2⟩,_⟩ := box3 hZ
 (try simp only [Exit.inBlock,Exit.then])
 refine bodyPost_ret (v := .tuple #[.agg #[.pointer p3,.int .i64 tx3,.slice q3 n3 c3],.bool true]) (by simp [results,Tryz.results75,go_sem,z0,z1,z2]) rfl ?_
 exact ⟨⟨_,rfl,p3,q3,c3,by simp only [stV,htx3,hn3],HS3.out.imm hI⟩,HB3.out.trans (hF.below HB3.out.size (fun k hk => by rw [hk]; exact Nat.le_succ _))⟩

set_option maxHeartbeats 4000000 in
theorem cprune_any (p q:Option Addr) (c K:Nat) (r:Rs) (s:Int) (lb gb:Nat) (x0':Int) (w:World) (h:StR w p q c r) (hk:OkR K r) (hK:K ≤ 3518437208882) (hc:w.cell? ⟨lb,0,none⟩ = some (.int .u64 s)) (hcl:lb < w.heap.size) (hgb:Box w gb #[.int .i64 x0'] 3) :
  Calls Tryz.prog 78 #[stV p q c r,ptr1 lb,ptr1 gb] w fun e w' => (∃ v',e = .returned (.tuple #[v',.bool (decide (0 < (r.L.length - (prnL r.L s).length:Nat)))]) ∧ StV w' v' (prnR s r)) ∧ Frm w w' (one1 gb) ∧ Box w' gb #[.int .i64 ((r.L.length - (prnL r.L s).length:Nat):Int)] 3 := by
 have HX0 := two_new w #[.pointer p,.int .i64 r.tx,.slice q r.W.length c] #[.pointer none,.int .i64 0,.slice none 0 0] 125 125
 have C1:Hid (Calls _ _ _ _ _) := prune_st p q c K r s ((w.alloc (.cells #[.pointer p,.int .i64 r.tx,.slice q r.W.length c] 125)).alloc (.cells #[.pointer none,.int .i64 0,.slice none 0 0] 125)) (h.imm (Imm.of_below HX0.2.2.1)) hk hK
 have a3:((w.alloc (.cells #[.pointer p,.int .i64 r.tx,.slice q r.W.length c] 125)).alloc (.cells #[.pointer none,.int .i64 0,.slice none 0 0] 125)).cell? ⟨lb,0,none⟩ = some (.int .u64 s) := (HX0.2.2.1.cell (p := ⟨lb,0,none⟩) hcl).trans hc
 have HG:Hid (Box ((w.alloc (.cells #[.pointer p,.int .i64 r.tx,.slice q r.W.length c] 125)).alloc (.cells #[.pointer none,.int .i64 0,.slice none 0 0] 125)) gb #[.int .i64 x0'] 3 ∧ gb < w.heap.size) := ⟨hgb.on HX0.2.2.1,hgb.lt⟩
 have hdec:decide (0 < r.L.length - (prnL r.L s).length) = decide ((0:Int) < ((r.L.length - (prnL r.L s).length:Nat):Int)) := by rw [decide_eq_decide]; omega
 rw [hdec]
 clear h hk hc hgb hdec
 simp only [stV] at C1 ⊢
 generalize prnR s r = r3 at *
 generalize r.L.length - (prnL r.L s).length = wn at *
 generalize htx:r.tx = tx at *
 generalize hn:r.W.length = n at *
 have HX:Hid (Box ((w.alloc (.cells #[.pointer p,.int .i64 tx,.slice q n c] 125)).alloc (.cells #[.pointer none,.int .i64 0,.slice none 0 0] 125)) w.heap.size #[.pointer p,.int .i64 tx,.slice q n c] 125 ∧ Box ((w.alloc (.cells #[.pointer p,.int .i64 tx,.slice q n c] 125)).alloc (.cells #[.pointer none,.int .i64 0,.slice none 0 0] 125)) (w.heap.size + 1) #[.pointer none,.int .i64 0,.slice none 0 0] 125 ∧ Below w.heap.size w ((w.alloc (.cells #[.pointer p,.int .i64 tx,.slice q n c] 125)).alloc (.cells #[.pointer none,.int .i64 0,.slice none 0 0] 125)) ∧ ((w.alloc (.cells #[.pointer p,.int .i64 tx,.slice q n c] 125)).alloc (.cells #[.pointer none,.int .i64 0,.slice none 0 0] 125)).heap.size = w.heap.size + 2) := HX0
 obtain ⟨⟨x0,x1,x2⟩,x3,x4,x5⟩ := box3 HX.out.1
 clear HX0
 go_enter Tryz.func78,Tryz.ntmps78
 go_wp2_with fail
 generalize ((w.alloc (.cells #[.pointer p,.int .i64 tx,.slice q n c] 125)).alloc (.cells #[.pointer none,.int .i64 0,.slice none 0 0] 125)) = w2 at *
 refine C1.out.mono ?_
 rintro e w3 ⟨⟨v3,rfl,p3,q3,c3,rfl,hs3⟩,hb3⟩
 obtain ⟨tx3,htx3⟩:∃ x,r3.tx = x := ⟨_,rfl⟩
 obtain ⟨n3,hn3⟩:∃ x,r3.W.length = x := ⟨_,rfl⟩
 simp only [stV,htx3,hn3]
 have hb3w:Below w.heap.size w w3 := HX.out.2.2.1.trans (hb3.mono HX.out.2.2.1.size)
 have hX3 := HX.out.1.on hb3
 have hY3 := HX.out.2.1.on hb3
 have hG3 := HG.out.1.on hb3
 have hgl := HG.out.2
 obtain ⟨⟨y0,y1,y2⟩,y3,y4,y5⟩ := box3 hX3
 obtain ⟨hZ,hI,hF⟩ := st_store hX3 p3 tx3 q3 n3 c3
 have hY4 := hY3.frm hF (show ¬ w.heap.size + 1 = w.heap.size by omega)
 have hG4 := hG3.frm hF (show ¬ gb = w.heap.size by omega)
 have hf4:Frm w _ none1 := (Frm.of_below hb3w).trans hF (fun k hk => .inr (by rw [hk]; exact Nat.le_refl _))
 have HQ4:Hid _ := And.intro hZ (And.intro hY4 (And.intro hG4 (And.intro (hs3.imm hI) hf4)))
 have g0 := (show Box _ gb #[.int .i64 x0'] 3 from hG4).cell0
 clear hb3 hs3 C1 HX x0 x1 x2 x3 x4 x5 a3 hb3w hX3 hY3 hG3 hZ hI hF hY4 hG4 hf4 HG
 go_upto_region 2 with fail
 obtain ⟨hZ,hY4,hG4,hs4,hf4⟩ := HQ4.out
 clear HQ4 g0
 generalize ((w3.setCell ⟨w.heap.size,0,none⟩ (.pointer p3)).setCell ⟨w.heap.size,1,none⟩ (.int .i64 tx3)).setCell ⟨w.heap.size,2,none⟩ (.slice q3 n3 c3) = w4 at *
 have hG5 := hG4.set (i := 0) (.int .i64 (wn:Nat))
 have hf5:Frm w4 (w4.setCell ⟨gb,0,none⟩ (.int .i64 (wn:Nat))) (one1 gb) := frm_set w4 gb 0 _ (.inl rfl)
 have hZ5 := hZ.frm hf5 (show ¬ w.heap.size = gb by omega)
 have hY5 := hY4.frm hf5 (show ¬ w.heap.size + 1 = gb by omega)
 have hs5 := hs4.imm (imm_set (i := 0) hG4 (pln1 _ (by simp)) (by decide) (.int .i64 (wn:Nat)))
 have hfa:Frm w (w4.setCell ⟨gb,0,none⟩ (.int .i64 (wn:Nat))) (one1 gb) := (hf4.mono (fun k hk => hk.elim)).trans hf5 (fun k hk => .inl hk)
 clear hZ hY4 hG4 hs4 hf4 hf5
 generalize w4.setCell ⟨gb,0,none⟩ (.int .i64 (wn:Nat)) = w5 at *
 obtain ⟨⟨x0,x1,x2⟩,x3,x4,x5⟩ := box3 hZ5
 obtain ⟨⟨y0,y1,y2⟩,y3,y4,y5⟩ := box3 hY5
 have g1 := (show Box w5 gb #[.int .i64 (wn:Nat)] 3 from hG5).cell0.1
 have HW:Hid (stB w5 (w.heap.size + 1) none 0 none 0 0 ∧ StR w5 p3 q3 c3 r3 ∧ Frm w w5 (one1 gb) ∧ Box w5 gb #[.int .i64 (wn:Nat)] 3) := ⟨hY5,hs5,hfa,hG5⟩
 clear hZ5 hY5 hs5 hfa hG5
 go_region
 all_goals
  go_wp2_with fail
  obtain ⟨hZ,hI,hF⟩ := st_store HW.out.1 p3 tx3 q3 n3 c3
  have hg9 := HW.out.2.2.2.frm hF (show ¬ gb = w.heap.size + 1 by omega)
  generalize ((w5.setCell ⟨w.heap.size + 1,0,none⟩ (.pointer p3)).setCell ⟨w.heap.size + 1,1,none⟩ (.int .i64 tx3)).setCell ⟨w.heap.size + 1,2,none⟩ (.slice q3 n3 c3) = w9 at *
  obtain ⟨⟨z0,z1,z2⟩,_⟩ := box3 hZ
  (try simp only [Exit.inBlock,Exit.then])
  refine bodyPost_ret (v := .tuple #[.agg #[.pointer p3,.int .i64 tx3,.slice q3 n3 c3],.bool (decide ((0:Int) < (wn:Int)))]) (by simp [results,Tryz.results78,go_sem,z0,z1,z2]) rfl ?_
  exact ⟨⟨_,rfl,p3,q3,c3,by simp only [stV,htx3,hn3],HW.out.2.1.imm (imm_drew hI)⟩,(HW.out.2.2.1.trans hF (fun k hk => .inr (by rw [hk]; exact Nat.le_succ _))).drew,hg9⟩

end Go.Proofs.YtcibcfghkidncaaGreatDoor

namespace Go.Proofs.YtcibcfghkidncaaGreatDoor
open Go.RowKit Go.Lib Go.Maps
set_option maxRecDepth 100000

section
variable {B sb most pb:Nat} {dl:Nat → Int} {dm:Nat → Option Nat} {pv tv:Value} {C:List (Nat × Nat)} {T:List Nat} {sv:Int → Value} {wo:Int → List Nat} {M:List Rs} {K J:Nat}
theorem stF_fst {C C':List (Nat × Nat)} (h:C'.map Prod.fst = C.map Prod.fst) {k:Nat} (hk:stF sb dm pv tv C' sv wo k):stF sb dm pv tv C sv wo k := by
 rcases hk with h1 | h1 | h1 | ⟨c,hm,rfl⟩ | h1 | h1
 ·exact .inl h1
 ·exact .inr (.inl h1)
 ·exact .inr (.inr (.inl h1))
 ·have:c.1 ∈ C'.map Prod.fst := List.mem_map_of_mem hm
  rw [h] at this
  obtain ⟨c',hc',e⟩ := List.mem_map.1 this
  exact .inr (.inr (.inr (.inl ⟨c',hc',e⟩)))
 ·exact .inr (.inr (.inr (.inr (.inl h1))))
 ·exact .inr (.inr (.inr (.inr (.inr h1))))
theorem fst_set {C:List (Nat × Nat)} {i cb m x:Nat} (h:C[i]? = some (cb,m)):(C.set i (cb,x)).map Prod.fst = C.map Prod.fst := by
 rw [List.map_set]
 apply List.ext_getElem (by simp)
 intro j h1 h2
 rw [List.getElem_set]
 split
 ·rename_i e
  subst e
  have := (List.getElem?_eq_some_iff.1 h).2
  simp [this]
 ·rfl
theorem puF_st {i cb m:Nat} (hc:C[i]? = some (cb,m)) {k:Nat} (h:puF sb cb tv k):stF sb dm pv tv C sv wo k := by
 rcases h with e | e | hk
 ·exact .inl e
 ·exact .inr (.inr (.inr (.inl ⟨(cb,m),List.mem_of_getElem? hc,e.symm⟩)))
 ·exact .inr (.inl hk)

theorem turnG1 (fid:FuncId) (k1:Value) (i:Nat) (r2:Rs) (b:Bool) (G:Nat → Prop) (Q:World → Prop) (w:World) (h:StX w B sb most pb 0 dl dm pv tv C T sv wo M K) (hI:InvT J most M T) (him:i < M.length) (ht:thr M[i] = true) (hK:K + 1 ≤ 9000000000000000000) (hb:b = false → r2 = M[i]) (hok:OkR J r2)
  (hin:∀ args w,(callFunc fid args).run Tryz.prog w = .ok (.enter fid args) w)
  (hG:∀ k,G k → MutB w k ∧ ¬ stF sb dm pv tv C sv wo k ∧ k < w.heap.size) (hQ:∀ wa wb,Q wa → (∀ k,G k → wb.heap[k]? = wa.heap[k]?) → Q wb)
  (HC:∀ w1 p q c,Below w.heap.size w w1 → StR w1 p q c M[i] → Calls Tryz.prog fid #[stV p q c M[i],k1] w1 fun e w2 => (∃ v2,e = .returned (.tuple #[v2,.bool b]) ∧ StV w2 v2 r2) ∧ Frm w1 w2 G ∧ Q w2) :
  Calls Tryz.prog 49 #[ptr1 sb,.int .i64 (i:Nat),.func (.func fid) #[] #[k1]] w fun e w' => (∃ v',e = .returned v' ∧ StV w' v' r2) ∧ (∃ C' T',StX w' B sb most pb 0 dl dm pv tv C' T' sv wo (M.set i r2) (K + 1) ∧ InvT J most (M.set i r2) T' ∧ C'.map Prod.fst = C.map Prod.fst) ∧ Q w' ∧ Frm w w' (fun k => G k ∨ stF sb dm pv tv C sv wo k) := by
 have hlen := h.plc.len
 have hl:C.length ≤ 65536 := by rw [hlen]; exact Nat.le_trans hI.len hI.mst
 have hil:i < C.length := by rw [hlen]; exact him
 have hc:C[i]? = some (C[i].1,C[i].2) := List.getElem?_eq_getElem hil
 have hm:C[i].2 ≤ K := h.plc.num _ (List.getElem_mem hil)
 cases b with
 | false =>
  have e2 := hb rfl
  subst e2
  refine (turn1_no fid k1 i C[i].1 C[i].2 M[i] G Q w (h.mono (Nat.le_succ K)) hc hK hl him hin hG hQ HC).mono ?_
  rintro e w' ⟨h1,h2,h3,h4⟩
  have es:M.set i M[i] = M := List.set_getElem_self him
  exact ⟨h1,⟨C,T,by rw [es]; exact h2,by rw [es]; exact hI,rfl⟩,h3,h4.mono (fun k hk => .inl (.inl hk))⟩
 | true =>
  refine (turn1_yes fid k1 i C[i].1 C[i].2 r2 G Q w (h.mono (Nat.le_succ K)) hc hK hl him (by omega) hI.tw (hI.idx him) hI.tlen hin hG hQ HC).mono ?_
  rintro e w' ⟨h1,h2,h3,h4⟩
  exact ⟨h1,⟨_,_,h2,hI.turn him ht (Nat.le_refl J) hok,fst_set hc⟩,h3,h4.mono (fun k hk => .inl (hk.elim .inl (fun hk => .inr (puF_st hc hk))))⟩

theorem turnG2 (fid:FuncId) (k1 k2:Value) (i:Nat) (r2:Rs) (b:Bool) (G:Nat → Prop) (Q:World → Prop) (w:World) (h:StX w B sb most pb 0 dl dm pv tv C T sv wo M K) (hI:InvT J most M T) (him:i < M.length) (ht:thr M[i] = true) (hK:K + 1 ≤ 9000000000000000000) (hb:b = false → r2 = M[i]) (hok:OkR J r2)
  (hin:∀ args w,(callFunc fid args).run Tryz.prog w = .ok (.enter fid args) w)
  (hG:∀ k,G k → MutB w k ∧ ¬ stF sb dm pv tv C sv wo k ∧ k < w.heap.size) (hQ:∀ wa wb,Q wa → (∀ k,G k → wb.heap[k]? = wa.heap[k]?) → Q wb)
  (HC:∀ w1 p q c,Below w.heap.size w w1 → StR w1 p q c M[i] → Calls Tryz.prog fid #[stV p q c M[i],k1,k2] w1 fun e w2 => (∃ v2,e = .returned (.tuple #[v2,.bool b]) ∧ StV w2 v2 r2) ∧ Frm w1 w2 G ∧ Q w2) :
  Calls Tryz.prog 49 #[ptr1 sb,.int .i64 (i:Nat),.func (.func fid) #[] #[k1,k2]] w fun e w' => (∃ v',e = .returned v' ∧ StV w' v' r2) ∧ (∃ C' T',StX w' B sb most pb 0 dl dm pv tv C' T' sv wo (M.set i r2) (K + 1) ∧ InvT J most (M.set i r2) T' ∧ C'.map Prod.fst = C.map Prod.fst) ∧ Q w' ∧ Frm w w' (fun k => G k ∨ stF sb dm pv tv C sv wo k) := by
 have hlen := h.plc.len
 have hl:C.length ≤ 65536 := by rw [hlen]; exact Nat.le_trans hI.len hI.mst
 have hil:i < C.length := by rw [hlen]; exact him
 have hc:C[i]? = some (C[i].1,C[i].2) := List.getElem?_eq_getElem hil
 have hm:C[i].2 ≤ K := h.plc.num _ (List.getElem_mem hil)
 cases b with
 | false =>
  have e2 := hb rfl
  subst e2
  refine (turn2_no fid k1 k2 i C[i].1 C[i].2 M[i] G Q w (h.mono (Nat.le_succ K)) hc hK hl him hin hG hQ HC).mono ?_
  rintro e w' ⟨h1,h2,h3,h4⟩
  have es:M.set i M[i] = M := List.set_getElem_self him
  exact ⟨h1,⟨C,T,by rw [es]; exact h2,by rw [es]; exact hI,rfl⟩,h3,h4.mono (fun k hk => .inl (.inl hk))⟩
 | true =>
  refine (turn2_yes fid k1 k2 i C[i].1 C[i].2 r2 G Q w (h.mono (Nat.le_succ K)) hc hK hl him (by omega) hI.tw (hI.idx him) hI.tlen hin hG hQ HC).mono ?_
  rintro e w' ⟨h1,h2,h3,h4⟩
  exact ⟨h1,⟨_,_,h2,hI.turn him ht (Nat.le_refl J) hok,fst_set hc⟩,h3,h4.mono (fun k hk => .inl (hk.elim .inl (fun hk => .inr (puF_st hc hk))))⟩

theorem turnG5 (fid:FuncId) (k1 k2 k3 k4 k5:Value) (i:Nat) (r2:Rs) (b:Bool) (G:Nat → Prop) (Q:World → Prop) (w:World) (h:StX w B sb most pb 0 dl dm pv tv C T sv wo M K) (hI:InvT J most M T) (him:i < M.length) (ht:thr M[i] = true) (hK:K + 1 ≤ 9000000000000000000) (hb:b = false → r2 = M[i]) (hok:OkR J r2)
  (hin:∀ args w,(callFunc fid args).run Tryz.prog w = .ok (.enter fid args) w)
  (hG:∀ k,G k → MutB w k ∧ ¬ stF sb dm pv tv C sv wo k ∧ k < w.heap.size) (hQ:∀ wa wb,Q wa → (∀ k,G k → wb.heap[k]? = wa.heap[k]?) → Q wb)
  (HC:∀ w1 p q c,Below w.heap.size w w1 → StR w1 p q c M[i] → Calls Tryz.prog fid #[stV p q c M[i],k1,k2,k3,k4,k5] w1 fun e w2 => (∃ v2,e = .returned (.tuple #[v2,.bool b]) ∧ StV w2 v2 r2) ∧ Frm w1 w2 G ∧ Q w2) :
  Calls Tryz.prog 49 #[ptr1 sb,.int .i64 (i:Nat),.func (.func fid) #[] #[k1,k2,k3,k4,k5]] w fun e w' => (∃ v',e = .returned v' ∧ StV w' v' r2) ∧ (∃ C' T',StX w' B sb most pb 0 dl dm pv tv C' T' sv wo (M.set i r2) (K + 1) ∧ InvT J most (M.set i r2) T' ∧ C'.map Prod.fst = C.map Prod.fst) ∧ Q w' ∧ Frm w w' (fun k => G k ∨ stF sb dm pv tv C sv wo k) := by
 have hlen := h.plc.len
 have hl:C.length ≤ 65536 := by rw [hlen]; exact Nat.le_trans hI.len hI.mst
 have hil:i < C.length := by rw [hlen]; exact him
 have hc:C[i]? = some (C[i].1,C[i].2) := List.getElem?_eq_getElem hil
 have hm:C[i].2 ≤ K := h.plc.num _ (List.getElem_mem hil)
 cases b with
 | false =>
  have e2 := hb rfl
  subst e2
  refine (turn5_no fid k1 k2 k3 k4 k5 i C[i].1 C[i].2 M[i] G Q w (h.mono (Nat.le_succ K)) hc hK hl him hin hG hQ HC).mono ?_
  rintro e w' ⟨h1,h2,h3,h4⟩
  have es:M.set i M[i] = M := List.set_getElem_self him
  exact ⟨h1,⟨C,T,by rw [es]; exact h2,by rw [es]; exact hI,rfl⟩,h3,h4.mono (fun k hk => .inl (.inl hk))⟩
 | true =>
  refine (turn5_yes fid k1 k2 k3 k4 k5 i C[i].1 C[i].2 r2 G Q w (h.mono (Nat.le_succ K)) hc hK hl him (by omega) hI.tw (hI.idx him) hI.tlen hin hG hQ HC).mono ?_
  rintro e w' ⟨h1,h2,h3,h4⟩
  exact ⟨h1,⟨_,_,h2,hI.turn him ht (Nat.le_refl J) hok,fst_set hc⟩,h3,h4.mono (fun k hk => .inl (hk.elim .inl (fun hk => .inr (puF_st hc hk))))⟩
end

end Go.Proofs.YtcibcfghkidncaaGreatDoor

namespace Go.Proofs.YtcibcfghkidncaaGreatDoor
open Go.RowKit Go.Lib Go.Maps
set_option maxRecDepth 100000

section
variable {w w':World} {B sb most pb:Nat} {ls:Int} {dl:Nat → Int} {dm:Nat → Option Nat} {pv tv:Value} {C:List (Nat × Nat)} {T:List Nat} {sv:Int → Value} {wo:Int → List Nat} {M:List Rs} {K:Nat}
theorem updI_same {α:Type} (f:Int → α) (k:Int) (x:α):updI f k x k = x := if_pos rfl
theorem updI_ne {α:Type} (f:Int → α) {k t:Int} (x:α) (h:t ≠ k):updI f k x t = f t := if_neg h
theorem StX.newmap {d:Nat} (h:StX w B sb most pb ls dl dm pv tv C T sv wo M K) (hd:d < 64) (hn:dm d = none) :
  StX ((w.alloc (.map #[] 0)).setCell ⟨sb,5 + d * 3 + 2,none⟩ (.map (some w.heap.size))) B sb most pb ls dl (updN dm d (some w.heap.size)) pv tv C T sv wo M K ∧ Frm w ((w.alloc (.map #[] 0)).setCell ⟨sb,5 + d * 3 + 2,none⟩ (.map (some w.heap.size))) (one1 sb) := by
 have hb:Below w.heap.size w (w.alloc (.map #[] 0)) := (Below.refl _ _).alloc (Nat.le_refl _) _
 have h1 := h.on hb
 have hf:Frm (w.alloc (.map #[] 0)) ((w.alloc (.map #[] 0)).setCell ⟨sb,5 + d * 3 + 2,none⟩ (.map (some w.heap.size))) (one1 sb) := frm_set _ sb _ _ (.inl rfl)
 have hblk := h1.blk.setM hd (some w.heap.size)
 rw [show 7 + 3 * d = 5 + d * 3 + 2 by omega] at hblk
 have hi:Imm (w.alloc (.map #[] 0)) ((w.alloc (.map #[] 0)).setCell ⟨sb,5 + d * 3 + 2,none⟩ (.map (some w.heap.size))) := Imm.of_frm hf (fun k hk => by rw [hk]; exact h1.blk.mut)
 have hsb:w.heap.size ≠ sb := by have := h.blk.lt; omega
 have hmk:HasMap ((w.alloc (.map #[] 0)).setCell ⟨sb,5 + d * 3 + 2,none⟩ (.map (some w.heap.size))) w.heap.size 0 (fun _ => none) := (HasMap.made w).of_block (heap_set_other _ _ _ _ _ hsb)
 refine ⟨⟨hblk,h.base,owns_frm h1.tak hf (fun g hg => h1.sb_tv hg),h1.plc.frm hf hi (fun g hg => h1.sb_pv hg) (fun c hc => h1.sb_cel hc),?_,h1.tnb.frm hf (fun g hg => ⟨(World.ownsRow.lt h1.tak g hg).2,h1.sb_tv hg⟩)⟩,(Frm.of_below hb).trans hf (fun k hk => .inl hk)⟩
 have hd1 := h1.dsk.frm hf (fun d mb hd hm => h1.sb_map hd hm) (fun t g ht hg => h1.sb_sv ht hg)
 refine ⟨fun d' hd' t ht => ?_,fun d' mb hd' hm => ?_,hd1.own,hd1.ne,fun a b x ha hb' hab h3 h4 => ?_,hd1.nbd⟩
 ·unfold updN at hd'
  split at hd'
  ·cases hd'
  ·exact h.dsk.non d' hd' t ht
 ·unfold updN at hm
  split at hm
  ·rename_i e
   cases hm
   subst e
   refine ⟨by have := h.base; have := h.blk.lt; omega,(hmk.mono (Nat.zero_le K)).ext (fun t => ?_)⟩
   unfold fD
   rw [if_neg]
   rintro ⟨h5,h6⟩
   exact h6 (h.dsk.non d' hn t h5)
  ·exact hd1.map d' mb hd' hm
 ·unfold updN at h3 h4
  split at h3
  ·rename_i e
   cases h3
   split at h4
   ·omega
   ·have := ((h.dsk.map b w.heap.size hb' h4).2).lt
    omega
  ·split at h4
   ·cases h4
    have := ((h.dsk.map a w.heap.size ha h3).2).lt
    omega
   ·exact h.dsk.nm a b x ha hb' hab h3 h4
theorem StX.deskT {t:Int} {v':Value} {L':List Nat} {G:Nat → Prop} {mb:Nat} (h:StX w B sb most pb ls dl dm pv tv C T sv wo M K) (hm:dm (dk t) = some mb) (hf:Frm w w' G) (hG:∀ k,G k → k = mb ∨ (wo t ≠ [] ∧ (sv t).ownBlock = some k))
  (hmap:HasMap w' mb (K + 1) (updI (fD sv wo (dk t)) t (if L' = [] then none else some v'))) (hown:L' ≠ [] → OwnI w' B v' L') (hnb:L' ≠ [] → NB w' v') (hne:L' ≠ [] → ∀ t',t' ≠ t → wo t' ≠ [] → (sv t').ownBlock ≠ v'.ownBlock) :
  StX w' B sb most pb ls dl dm pv tv C T (updI sv t v') (updI wo t L') M (K + 1) := by
 have hst:∀ k,G k → stF sb dm pv tv C sv wo k := fun k hk => by
  rcases hG k hk with rfl | ⟨h1,h2⟩
  ·exact .inr (.inr (.inr (.inr (.inl ⟨dk t,dk_lt t,hm⟩))))
  ·exact .inr (.inr (.inr (.inr (.inr ⟨t,h1,h2⟩))))
 have hi:Imm w w' := Imm.of_frm hf (fun k hk => (h.mut (hst k hk)).1)
 have nsb:¬ G sb := fun e => by
  rcases hG _ e with e | ⟨h1,h2⟩
  ·exact h.sb_map (dk_lt t) hm e.symm
  ·exact h.sb_sv h1 h2 rfl
 have ntv:∀ g,tv.ownBlock = some g → ¬ G g := fun g hg e => by
  rcases hG _ e with e | ⟨h1,h2⟩
  ·exact h.tv_map hg (dk_lt t) hm e
  ·exact h.tv_sv hg h1 h2 rfl
 have npv:∀ g,pv.ownBlock = some g → ¬ G g := fun g hg e => by
  rcases hG _ e with e | ⟨h1,h2⟩
  ·exact h.pv_map hg (dk_lt t) hm e
  ·exact h.pv_sv hg h1 h2 rfl
 have ncl:∀ c ∈ C,¬ G c.1 := fun c hc e => by
  rcases hG _ e with e | ⟨h1,h2⟩
  ·exact h.cel_map hc (dk_lt t) hm e.symm
  ·exact h.cel_sv hc h1 h2 rfl
 have hp := h.plc.frm hf hi npv ncl
 refine ⟨h.blk.frm hf nsb,h.base,owns_frm h.tak hf ntv,⟨hp.box,hp.own,hp.len,hp.cel,fun c hc => Nat.le_succ_of_le (hp.num c hc),hp.ne,hp.nbp⟩,?_,h.tnb.frm hf (fun g hg => ⟨(World.ownsRow.lt h.tak g hg).2,ntv g hg⟩)⟩
 have nsv:∀ t' g,t' ≠ t → wo t' ≠ [] → (sv t').ownBlock = some g → ¬ G g := fun t' g hne' h1 h2 e => by
  rcases hG _ e with e | ⟨h3,h4⟩
  ·exact h.sv_map h1 h2 (dk_lt t) hm e
  ·exact h.dsk.ne t' t hne' h1 h3 (h2.trans h4.symm)
 refine ⟨fun d hd t' ht => ?_,fun d b hd hb => ?_,fun t' ht => ?_,fun a b hab ha hb => ?_,h.dsk.nm,fun t' ht => ?_⟩
 ·by_cases e:t' = t
  ·subst e
   rw [ht] at hm
   rw [hm] at hd
   cases hd
  ·rw [updI_ne _ _ e]
   exact h.dsk.non d hd t' ht
 ·by_cases e:d = dk t
  ·subst e
   rw [hm] at hb
   cases hb
   refine ⟨(h.dsk.map _ _ hd hm).1,hmap.ext (fun t' => ?_)⟩
   by_cases e:t' = t
   ·subst e
    rw [updI_same]
    unfold fD
    rw [updI_same,updI_same]
    by_cases hl:L' = []
    ·rw [if_pos hl,if_neg (fun h => h.2 hl)]
    ·rw [if_neg hl,if_pos ⟨rfl,hl⟩]
   ·rw [updI_ne _ _ e]
    unfold fD
    rw [updI_ne _ _ e,updI_ne _ _ e]
  ·have hbm := h.dsk.map d b hd hb
   have hnb':¬ G b := fun eb => by
    rcases hG _ eb with rfl | ⟨h1,h2⟩
    ·exact h.dsk.nm d (dk t) _ hd (dk_lt t) e hb hm
    ·exact h.sv_map h1 h2 hd hb rfl
   refine ⟨hbm.1,((hbm.2.of_block (hf.block b hbm.2.lt hnb')).mono (Nat.le_succ _)).ext (fun t' => ?_)⟩
   unfold fD
   by_cases et:t' = t
   ·subst et
    rw [if_neg (fun h => e h.1.symm),if_neg (fun h => e h.1.symm)]
   ·rw [updI_ne _ _ et,updI_ne _ _ et]
 ·by_cases e:t' = t
  ·subst e
   rw [updI_same] at ht ⊢
   rw [updI_same]
   exact hown ht
  ·rw [updI_ne _ _ e] at ht ⊢
   rw [updI_ne _ _ e]
   exact owns_frm (h.dsk.own t' ht) hf (fun g hg => nsv t' g e ht hg)
 ·by_cases ea:a = t
  ·subst ea
   have eb:b ≠ a := fun e => hab e.symm
   rw [updI_same] at ha ⊢
   rw [updI_ne _ _ eb] at hb ⊢
   exact (hne ha b eb hb).symm
  ·rw [updI_ne _ _ ea] at ha ⊢
   by_cases eb:b = t
   ·subst eb
    rw [updI_same] at hb ⊢
    exact hne hb a ea ha
   ·rw [updI_ne _ _ eb] at hb ⊢
    exact h.dsk.ne a b hab ha hb
 ·by_cases e:t' = t
  ·subst e
   rw [updI_same] at ht ⊢
   exact hnb ht
  ·rw [updI_ne _ _ e] at ht ⊢
   exact (h.dsk.nbd t' ht).frm hf (fun g hg => ⟨(World.ownsRow.lt (h.dsk.own t' ht) g hg).2,nsv t' g e ht hg⟩)
end

end Go.Proofs.YtcibcfghkidncaaGreatDoor

namespace Go.Proofs.YtcibcfghkidncaaGreatDoor
open Go.RowKit Go.Lib Go.Maps
set_option maxRecDepth 100000

section
variable {B sb most pb:Nat} {ls:Int} {dl:Nat → Int} {dm:Nat → Option Nat} {pv tv:Value} {C:List (Nat × Nat)} {T:List Nat} {sv:Int → Value} {wo:Int → List Nat} {M:List Rs} {K:Nat}
theorem updI_id {f:Int → List Nat} {t:Int} (h:f t = []):updI f t [] = f := by
 funext x
 unfold updI
 by_cases e:x = t
 ·rw [if_pos e,e,h]
 ·rw [if_neg e]

theorem del_nil (t:Int) (w:World):(Builtin.delete_ #[98,3] 0 #[.map none,.int .i64 t]).run Tryz.prog w = .ok (.tuple #[]) w := by kernel_rfl

set_option maxHeartbeats 1000000 in
theorem keep_none (t:Int) (p:Option Addr) (c:Nat) (w:World) (h:StX w B sb most pb ls dl dm pv tv C T sv wo M K) (h1:-9223372036854775808 ≤ t) (h2:t < 9223372036854775808) :
  Calls Tryz.prog 53 #[.pointer (some ⟨sb,5 + dk t * 3,none⟩),.int .i64 t,.slice p 0 c] w fun e w' => e = .returned (.tuple #[]) ∧ StX w' B sb most pb ls dl dm pv tv C T sv (updI wo t []) M (K + 1) ∧ Frm w w' (fun k => dm (dk t) = some k) := by
 obtain ⟨_,c1,_,_⟩ := h.deskc (dk_lt t)
 cases hm:dm (dk t) with
 | none =>
  have hw := h.dsk.non _ hm t rfl
  rw [hm] at c1
  have HS:Hid (StX w B sb most pb ls dl dm pv tv C T sv wo M K) := h
  have hdel := del_nil t w
  clear h
  go_enter Tryz.func53,Tryz.ntmps53
  go_wp2
  refine bodyPost_ret (results_none rfl _ _ _) rfl ?_
  rw [updI_id hw]
  exact ⟨rfl,HS.out.mono (Nat.le_succ _),Frm.refl _ _⟩
 | some mb =>
  rw [hm] at c1
  obtain ⟨hB,hmp⟩ := h.dsk.map _ _ (dk_lt t) hm
  have HS:Hid (StX w B sb most pb ls dl dm pv tv C T sv wo M K) := h
  obtain ⟨w',hr,hm',ht'⟩ := hmp.drop t h1 h2 0
  have HM:Hid (HasMap w' mb K (updI (fD sv wo (dk t)) t none) ∧ w.mapTurned w' mb) := ⟨hm',ht'⟩
  clear h hmp hm' ht'
  go_enter Tryz.func53,Tryz.ntmps53
  go_wp2
  refine bodyPost_ret (results_none rfl _ _ _) rfl ?_
  have hf:Frm w w' (fun k => k = mb) := Frm.of_turned HM.out.2 (.inl rfl)
  have hx := HS.out.deskT (t := t) (v' := sv t) (L' := []) hm hf (fun k hk => .inl hk) (by rw [if_pos rfl]; exact HM.out.1.mono (Nat.le_succ _)) (fun h => absurd rfl h) (fun h => absurd rfl h) (fun h => absurd rfl h)
  have e:updI sv t (sv t) = sv := by
   funext x
   unfold updI
   by_cases e:x = t
   ·rw [if_pos e,e]
   ·rw [if_neg e]
  rw [e] at hx
  exact ⟨rfl,hx,hf.mono (fun k hk => .inl (by rw [hk]))⟩

set_option maxHeartbeats 1000000 in
theorem keep_some (t:Int) (v:Value) (L:List Nat) (mb:Nat) (w:World) (h:StX w B sb most pb ls dl dm pv tv C T sv wo M K) (h1:-9223372036854775808 ≤ t) (h2:t < 9223372036854775808) (hm:dm (dk t) = some mb) (hL:L ≠ []) (hK:K ≤ 9000000000000000000) (_hlen:L.length ≤ 65536) (hown:OwnI w B v L) (hnb:NB w v) (hne:∀ k,v.ownBlock = some k → ¬ stF sb dm pv tv C sv wo k) :
  Calls Tryz.prog 53 #[.pointer (some ⟨sb,5 + dk t * 3,none⟩),.int .i64 t,v] w fun e w' => e = .returned (.tuple #[]) ∧ StX w' B sb most pb ls dl dm pv tv C T (updI sv t v) (updI wo t L) M (K + 1) ∧ Frm w w' (fun k => dm (dk t) = some k) := by
 obtain ⟨_,c1,_,_⟩ := h.deskc (dk_lt t)
 rw [hm] at c1
 obtain ⟨hB,hmp⟩ := h.dsk.map _ _ (dk_lt t) hm
 have HS:Hid (StX w B sb most pb ls dl dm pv tv C T sv wo M K) := h
 have HO:Hid (OwnI w B v L ∧ NB w v ∧ ∀ k,v.ownBlock = some k → ¬ stF sb dm pv tv C sv wo k) := ⟨hown,hnb,hne⟩
 obtain ⟨w',hr,hm',ht'⟩ := hmp.store (by unfold maxLen; omega) t v h1 h2
 have HM:Hid (HasMap w' mb (K + 1) (updI (fD sv wo (dk t)) t (some v)) ∧ w.mapTurned w' mb) := ⟨hm',ht'⟩
 obtain ⟨p,c,rfl,_⟩ := owns_len hown
 have hl0:((L.length:Int) == 0) = false := beq_eq_false_iff_ne.2 (by
  have:L.length ≠ 0 := fun e => hL (List.eq_nil_of_length_eq_zero e)
  omega)
 clear h hmp hm' ht' hown hnb hne
 go_enter Tryz.func53,Tryz.ntmps53
 go_wp2
 go_end0
 have hf:Frm w w' (fun k => k = mb) := Frm.of_turned HM.out.2 (.inl rfl)
 have hvm:∀ g,(Value.slice p L.length c).ownBlock = some g → ¬ (g = mb) := fun g hg e => HO.out.2.2 g hg (.inr (.inr (.inr (.inr (.inl ⟨dk t,dk_lt t,by rw [hm,e]⟩)))))
 refine ⟨rfl,HS.out.deskT (t := t) (v' := .slice p L.length c) (L' := L) hm hf (fun k hk => .inl hk) (by rw [if_neg hL]; exact HM.out.1) (fun _ => owns_frm HO.out.1 hf hvm) (fun _ => HO.out.2.1.frm hf (fun g hg => ⟨(World.ownsRow.lt HO.out.1 g hg).2,hvm g hg⟩)) (fun _ t' hne' ht' e => ?_),hf.mono (fun k hk => .inl (by rw [hm,hk]))⟩
 have hob := World.ownsRow.lt (HS.out.dsk.own t' ht')
 rcases (HS.out.dsk.own t' ht').2 with ⟨_,h0⟩ | ⟨g,cap,cur,hv,_⟩
 ·exact ht' (List.eq_nil_of_length_eq_zero h0)
 ·have hg:(sv t').ownBlock = some g := by rw [hv]; rfl
  exact HO.out.2.2 g (e.symm.trans hg) (.inr (.inr (.inr (.inr (.inr ⟨t',ht',hg⟩)))))
end

end Go.Proofs.YtcibcfghkidncaaGreatDoor
