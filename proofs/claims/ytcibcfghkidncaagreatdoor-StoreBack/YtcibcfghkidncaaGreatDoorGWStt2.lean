/- Walks over a row's state: back, fold. Walks over a row's state: versions, settle. Walks over a row's state: prune. Walks over a row's state: write. -/
import Derived.Test.YtcibcfghkidncaaGreatDoorGWCel11
import Derived.Test.YtcibcfghkidncaaGreatDoorGFChn8
namespace Go.Proofs.YtcibcfghkidncaaGreatDoor
open Go.RowKit
set_option maxRecDepth 100000

theorem fld0 (n:Int) (g:Bool) (p:Option Addr) (l c:Nat) (w:World):(Instr.field 38 (.agg #[.int .i64 n,.bool g,.slice p l c]) 0).run Tryz.prog w = .ok (.int .i64 n) w := by kernel_rfl

set_option maxHeartbeats 4000000 in
theorem back_st (p q:Option Addr) (c K:Nat) (r:Rs) (v:Rw) (s:Int) (w:World) (h:StR w p q c r) (hv:lastW r = some v) (hk:OkR K r) (hK:K ≤ 3518437208882)  :
  Calls Tryz.prog 51 #[stV p q c r,.int .i64 s] w fun e w' => (∃ v',e = .returned (.tuple #[v',.bool (!decide (v.n < s))]) ∧ StV w' v' (bakR s r)) ∧ Below w.heap.size w w' := by
 have HSame:Hid (v.n < s → bakR s r = r) := fun h1 => bak_same hk hv h1
 obtain ⟨L,tx,W⟩ := r
 have HR:Hid (∀ w1,Below w.heap.size w w1 → RdR .i64 w1 w1.heap.size q W) := fun w1 h1 => h.rd.on h1
 have HP:Hid (∀ w1,Imm w w1 → Pst w1 p L) := fun w1 h1 => h.pst.imm h1
 have HRI:Hid (∀ w1,Imm w w1 → RdR .i64 w1 w1.heap.size q W) := fun w1 h1 => h.rd.imm h1
 have HNil:Hid (q = none → c = 0) := h.nil
 have HSW:Hid (shortR W) := hk.sW
 have HKW:Hid (W.length ≤ K) := hk.nW
 have C1:Hid (∀ w1,Below w.heap.size w w1 → Calls Tryz.prog 88 #[stV p q c ⟨L,tx,W⟩] w1 fun e w' => (∃ qv cv,e = .returned (.agg #[.int .i64 v.n,.bool v.gn,.slice qv v.row.length cv]) ∧ SlV w1 w1.heap.size (.slice qv v.row.length cv) v.row) ∧ Below w1.heap.size w1 w') := fun w1 h1 => last_any p q c ⟨L,tx,W⟩ v w1 (HR.out w1 h1) hv (by have := HKW.out; show W.length ≤ _; omega)
 have C2:Hid (∀ w1,Below w.heap.size w w1 → Calls Tryz.prog 89 #[.agg #[.int .i64 tx,.slice q W.length c],.int .i64 s] w1 fun e w' => (∃ v Z,e = .returned (.agg #[.int .i64 (bakT tx W s),v]) ∧ Z.map Prod.fst = belL W s ∧ OwnRs .i64 38 w' w1.heap.size v Z) ∧ Below w1.heap.size w1 w') := fun w1 h1 => back_any W q c tx s w1 (HR.out w1 h1) (by have := HKW.out; omega) HSW.out
 have HX0 := two_new w #[.pointer p,.int .i64 tx,.slice q W.length c] #[.pointer none,.int .i64 0,.slice none 0 0] 125 125
 clear h hv hk HSW HKW
 simp only [stV] at *
 generalize hn:W.length = n at *
 generalize v.n = vn at *
 generalize v.gn = vg at *
 generalize v.row = vr at *
 have HX:Hid (Box ((w.alloc (.cells #[.pointer p,.int .i64 tx,.slice q n c] 125)).alloc (.cells #[.pointer none,.int .i64 0,.slice none 0 0] 125)) w.heap.size #[.pointer p,.int .i64 tx,.slice q n c] 125 ∧ Box ((w.alloc (.cells #[.pointer p,.int .i64 tx,.slice q n c] 125)).alloc (.cells #[.pointer none,.int .i64 0,.slice none 0 0] 125)) (w.heap.size + 1) #[.pointer none,.int .i64 0,.slice none 0 0] 125 ∧ Below w.heap.size w ((w.alloc (.cells #[.pointer p,.int .i64 tx,.slice q n c] 125)).alloc (.cells #[.pointer none,.int .i64 0,.slice none 0 0] 125)) ∧ ((w.alloc (.cells #[.pointer p,.int .i64 tx,.slice q n c] 125)).alloc (.cells #[.pointer none,.int .i64 0,.slice none 0 0] 125)).heap.size = w.heap.size + 2) := HX0
 clear HX0
 go_enter Tryz.func51,Tryz.ntmps51
 go_wp2_with fail
 generalize ((w.alloc (.cells #[.pointer p,.int .i64 tx,.slice q n c] 125)).alloc (.cells #[.pointer none,.int .i64 0,.slice none 0 0] 125)) = w2 at *
 refine (C1.out _ HX.out.2.2.1).mono ?_
 rintro e w3 ⟨⟨qv,cv,rfl,-⟩,hb3⟩
 have HB3:Hid (Below w.heap.size w w3) := HX.out.2.2.1.trans (hb3.mono HX.out.2.2.1.size)
 have HX3:Hid (Box w3 w.heap.size #[.pointer p,.int .i64 tx,.slice q n c] 125 ∧ Box w3 (w.heap.size + 1) #[.pointer none,.int .i64 0,.slice none 0 0] 125) := ⟨HX.out.1.on hb3,HX.out.2.1.on hb3⟩
 obtain ⟨⟨x0,x1,x2⟩,x3,x4,x5⟩ := box3 HX3.out.1
 obtain ⟨⟨y0,y1,y2⟩,y3,y4,y5⟩ := box3 HX3.out.2
 clear hb3 HX C1
 have hfl := fld0 vn vg qv vr.length cv w3
 by_cases hlt:vn < s
 ·have HE := HSame.out hlt
  clear HSame C2
  have HE':Hid _ := HE
  clear HE
  go_wp2_with fail
  obtain ⟨hZ,hI,hF⟩ := st_store HX3.out.2 p tx q n c
  generalize ((w3.setCell ⟨w.heap.size + 1,0,none⟩ (.pointer p)).setCell ⟨w.heap.size + 1,1,none⟩ (.int .i64 tx)).setCell ⟨w.heap.size + 1,2,none⟩ (.slice q n c) = w9 at *
  obtain ⟨⟨z0,z1,z2⟩,_⟩ := box3 hZ
  (try simp only [Exit.inBlock,Exit.then])
  refine bodyPost_ret (v := .tuple #[.agg #[.pointer p,.int .i64 tx,.slice q n c],.bool false]) (by simp [results,Tryz.results51,go_sem,z0,z1,z2]) rfl ?_
  have hi9 := (Imm.of_below HB3.out).trans hI
  exact ⟨⟨_,by rw [decide_eq_true hlt]; rfl,by rw [HE'.out]; exact ⟨p,q,c,by simp only [stV,hn],HP.out w9 hi9,HRI.out w9 hi9,HNil.out⟩⟩,HB3.out.trans (hF.below HB3.out.size (fun k hk => by rw [hk]; exact Nat.le_succ _))⟩
 ·have hlt':s ≤ vn := by omega
  clear hlt HSame
  go_wp2_with fail
  refine (C2.out _ HB3.out).mono ?_
  rintro e w4 ⟨⟨v4,Z4,rfl,hZ4,hO4⟩,hb4⟩
  obtain ⟨q4,c4,rfl,hr4,hn4⟩ := hO4.st hZ4
  have HB4:Hid (Below w.heap.size w w4) := HB3.out.trans (hb4.mono HB3.out.size)
  have HX4:Hid (Box w4 w.heap.size #[.pointer p,.int .i64 tx,.slice q n c] 125 ∧ Box w4 (w.heap.size + 1) #[.pointer none,.int .i64 0,.slice none 0 0] 125) := ⟨HX3.out.1.on hb4,HX3.out.2.on hb4⟩
  have HR4:Hid (RdR .i64 w4 w4.heap.size q4 (belL W s) ∧ (q4 = none → c4 = 0)) := ⟨hr4,hn4⟩
  obtain ⟨⟨x0,x1,x2⟩,x3,x4,x5⟩ := box3 HX4.out.1
  obtain ⟨⟨y0,y1,y2⟩,y3,y4,y5⟩ := box3 HX4.out.2
  clear hb4 hO4 hZ4 hr4 hn4 C2 HX3 HB3
  generalize hbt:bakT tx W s = bt at *
  generalize hbl:(belL W s).length = bl at *
  obtain ⟨hU,hIU,hFU⟩ := st_int HX4.out.1 bt q4 bl c4
  have HU:Hid _ := And.intro hU (And.intro hIU hFU)
  clear hU hIU hFU
  go_wp2_with fail
  obtain ⟨hU,hIU,hFU⟩ := HU.out
  have hY := HX4.out.2.frm hFU (show ¬ w.heap.size + 1 = w.heap.size by omega)
  generalize (w4.setCell ⟨w.heap.size,1,none⟩ (.int .i64 bt)).setCell ⟨w.heap.size,2,none⟩ (.slice q4 bl c4) = w5 at *
  obtain ⟨hZ,hI,hF⟩ := st_store hY p bt q4 bl c4
  generalize ((w5.setCell ⟨w.heap.size + 1,0,none⟩ (.pointer p)).setCell ⟨w.heap.size + 1,1,none⟩ (.int .i64 bt)).setCell ⟨w.heap.size + 1,2,none⟩ (.slice q4 bl c4) = w9 at *
  obtain ⟨⟨z0,z1,z2⟩,_⟩ := box3 hZ
  (try simp only [Exit.inBlock,Exit.then])
  refine bodyPost_ret (v := .tuple #[.agg #[.pointer p,.int .i64 bt,.slice q4 bl c4],.bool true]) (by simp [results,Tryz.results51,go_sem,z0,z1,z2]) rfl ?_
  have hi9 := hIU.trans hI
  have hB5 := HB4.out.trans (hFU.below HB4.out.size (fun k hk => by rw [hk]; exact Nat.le_refl _))
  exact ⟨⟨_,by rw [decide_eq_false (show ¬ vn < s by omega)]; rfl,p,q4,c4,by simp only [stV,bakR,hbt,hbl],HP.out w9 ((Imm.of_below HB4.out).trans hi9),HR4.out.1.imm hi9,HR4.out.2⟩,hB5.trans (hF.below hB5.size (fun k hk => by rw [hk]; exact Nat.le_succ _))⟩

set_option maxHeartbeats 4000000 in
theorem fold_st (p q:Option Addr) (c K:Nat) (r:Rs) (v:Rw) (s:Int) (w:World) (h:StR w p q c r) (hv:lastW r = some v) (hk:OkR K r) (hK:K ≤ 3518437208882) (hs:1 ≤ s) (hs2:s ≤ 9223372036854775807) :
  Calls Tryz.prog 72 #[stV p q c r,.int .i64 s] w fun e w' => (∃ v',e = .returned (.tuple #[v',.bool (!decide (v.n < s))]) ∧ StV w' v' (fldR s r)) ∧ Below w.heap.size w w' := by
 have HSame:Hid (v.n < s → fldR s r = r) := fun h1 => fld_same hk hv hs h1
 obtain ⟨L,tx,W⟩ := r
 have HR:Hid (∀ w1,Below w.heap.size w w1 → RdR .i64 w1 w1.heap.size q W) := fun w1 h1 => h.rd.on h1
 have HP:Hid (∀ w1,Imm w w1 → Pst w1 p L) := fun w1 h1 => h.pst.imm h1
 have HRI:Hid (∀ w1,Imm w w1 → RdR .i64 w1 w1.heap.size q W) := fun w1 h1 => h.rd.imm h1
 have HNil:Hid (q = none → c = 0) := h.nil
 have HSW:Hid (shortR W) := hk.sW
 have HKW:Hid (W.length ≤ K) := hk.nW
 have C1:Hid (∀ w1,Below w.heap.size w w1 → Calls Tryz.prog 88 #[stV p q c ⟨L,tx,W⟩] w1 fun e w' => (∃ qv cv,e = .returned (.agg #[.int .i64 v.n,.bool v.gn,.slice qv v.row.length cv]) ∧ SlV w1 w1.heap.size (.slice qv v.row.length cv) v.row) ∧ Below w1.heap.size w1 w') := fun w1 h1 => last_any p q c ⟨L,tx,W⟩ v w1 (HR.out w1 h1) hv (by have := HKW.out; show W.length ≤ _; omega)
 have C2:Hid (∀ w1,Below w.heap.size w w1 → Calls Tryz.prog 104 #[.agg #[.int .i64 tx,.slice q W.length c],.int .i64 s] w1 fun e w' => (∃ v Z,e = .returned (.tuple #[.agg #[.int .i64 tx,v],.int .i64 0]) ∧ Z.map Prod.fst = fldL W s ∧ OwnRs .i64 38 w' w1.heap.size v Z) ∧ Below w1.heap.size w1 w') := fun w1 h1 => by
  have hf := fold_any W q c tx s w1 (HR.out w1 h1) (by have := HKW.out; omega) HSW.out hs2
  rw [show fldT tx s = tx from if_neg (by omega),show fldE s = 0 from if_neg (by omega)] at hf
  exact hf
 have HX0 := two_new w #[.pointer p,.int .i64 tx,.slice q W.length c] #[.pointer none,.int .i64 0,.slice none 0 0] 125 125
 clear h hv hk HSW HKW
 simp only [stV] at *
 generalize hn:W.length = n at *
 generalize v.n = vn at *
 generalize v.gn = vg at *
 generalize v.row = vr at *
 have HX:Hid (Box ((w.alloc (.cells #[.pointer p,.int .i64 tx,.slice q n c] 125)).alloc (.cells #[.pointer none,.int .i64 0,.slice none 0 0] 125)) w.heap.size #[.pointer p,.int .i64 tx,.slice q n c] 125 ∧ Box ((w.alloc (.cells #[.pointer p,.int .i64 tx,.slice q n c] 125)).alloc (.cells #[.pointer none,.int .i64 0,.slice none 0 0] 125)) (w.heap.size + 1) #[.pointer none,.int .i64 0,.slice none 0 0] 125 ∧ Below w.heap.size w ((w.alloc (.cells #[.pointer p,.int .i64 tx,.slice q n c] 125)).alloc (.cells #[.pointer none,.int .i64 0,.slice none 0 0] 125)) ∧ ((w.alloc (.cells #[.pointer p,.int .i64 tx,.slice q n c] 125)).alloc (.cells #[.pointer none,.int .i64 0,.slice none 0 0] 125)).heap.size = w.heap.size + 2) := HX0
 clear HX0
 go_enter Tryz.func72,Tryz.ntmps72
 go_wp2_with fail
 generalize ((w.alloc (.cells #[.pointer p,.int .i64 tx,.slice q n c] 125)).alloc (.cells #[.pointer none,.int .i64 0,.slice none 0 0] 125)) = w2 at *
 refine (C1.out _ HX.out.2.2.1).mono ?_
 rintro e w3 ⟨⟨qv,cv,rfl,-⟩,hb3⟩
 have HB3:Hid (Below w.heap.size w w3) := HX.out.2.2.1.trans (hb3.mono HX.out.2.2.1.size)
 have HX3:Hid (Box w3 w.heap.size #[.pointer p,.int .i64 tx,.slice q n c] 125 ∧ Box w3 (w.heap.size + 1) #[.pointer none,.int .i64 0,.slice none 0 0] 125) := ⟨HX.out.1.on hb3,HX.out.2.1.on hb3⟩
 obtain ⟨⟨x0,x1,x2⟩,x3,x4,x5⟩ := box3 HX3.out.1
 obtain ⟨⟨y0,y1,y2⟩,y3,y4,y5⟩ := box3 HX3.out.2
 clear hb3 HX C1
 have hfl := fld0 vn vg qv vr.length cv w3
 by_cases hlt:vn < s
 ·have HE := HSame.out hlt
  clear HSame C2
  have HE':Hid _ := HE
  clear HE
  go_wp2_with fail
  obtain ⟨hZ,hI,hF⟩ := st_store HX3.out.2 p tx q n c
  generalize ((w3.setCell ⟨w.heap.size + 1,0,none⟩ (.pointer p)).setCell ⟨w.heap.size + 1,1,none⟩ (.int .i64 tx)).setCell ⟨w.heap.size + 1,2,none⟩ (.slice q n c) = w9 at *
  obtain ⟨⟨z0,z1,z2⟩,_⟩ := box3 hZ
  (try simp only [Exit.inBlock,Exit.then])
  refine bodyPost_ret (v := .tuple #[.agg #[.pointer p,.int .i64 tx,.slice q n c],.bool false]) (by simp [results,Tryz.results72,go_sem,z0,z1,z2]) rfl ?_
  have hi9 := (Imm.of_below HB3.out).trans hI
  exact ⟨⟨_,by rw [decide_eq_true hlt]; rfl,by rw [HE'.out]; exact ⟨p,q,c,by simp only [stV,hn],HP.out w9 hi9,HRI.out w9 hi9,HNil.out⟩⟩,HB3.out.trans (hF.below HB3.out.size (fun k hk => by rw [hk]; exact Nat.le_succ _))⟩
 ·have hlt':s ≤ vn := by omega
  clear hlt HSame
  go_wp2_with fail
  refine (C2.out _ HB3.out).mono ?_
  rintro e w4 ⟨⟨v4,Z4,rfl,hZ4,hO4⟩,hb4⟩
  obtain ⟨q4,c4,rfl,hr4,hn4⟩ := hO4.st hZ4
  have HB4:Hid (Below w.heap.size w w4) := HB3.out.trans (hb4.mono HB3.out.size)
  have HX4:Hid (Box w4 w.heap.size #[.pointer p,.int .i64 tx,.slice q n c] 125 ∧ Box w4 (w.heap.size + 1) #[.pointer none,.int .i64 0,.slice none 0 0] 125) := ⟨HX3.out.1.on hb4,HX3.out.2.on hb4⟩
  have HR4:Hid (RdR .i64 w4 w4.heap.size q4 (fldL W s) ∧ (q4 = none → c4 = 0)) := ⟨hr4,hn4⟩
  obtain ⟨⟨x0,x1,x2⟩,x3,x4,x5⟩ := box3 HX4.out.1
  obtain ⟨⟨y0,y1,y2⟩,y3,y4,y5⟩ := box3 HX4.out.2
  clear hb4 hO4 hZ4 hr4 hn4 C2 HX3 HB3
  skip
  generalize hbl:(fldL W s).length = bl at *
  obtain ⟨hU,hIU,hFU⟩ := st_int HX4.out.1 tx q4 bl c4
  have HU:Hid _ := And.intro hU (And.intro hIU hFU)
  clear hU hIU hFU
  go_wp2_with fail
  obtain ⟨hU,hIU,hFU⟩ := HU.out
  have hY := HX4.out.2.frm hFU (show ¬ w.heap.size + 1 = w.heap.size by omega)
  generalize (w4.setCell ⟨w.heap.size,1,none⟩ (.int .i64 tx)).setCell ⟨w.heap.size,2,none⟩ (.slice q4 bl c4) = w5 at *
  obtain ⟨hZ,hI,hF⟩ := st_store hY p tx q4 bl c4
  generalize ((w5.setCell ⟨w.heap.size + 1,0,none⟩ (.pointer p)).setCell ⟨w.heap.size + 1,1,none⟩ (.int .i64 tx)).setCell ⟨w.heap.size + 1,2,none⟩ (.slice q4 bl c4) = w9 at *
  obtain ⟨⟨z0,z1,z2⟩,_⟩ := box3 hZ
  (try simp only [Exit.inBlock,Exit.then])
  refine bodyPost_ret (v := .tuple #[.agg #[.pointer p,.int .i64 tx,.slice q4 bl c4],.bool true]) (by simp [results,Tryz.results72,go_sem,z0,z1,z2]) rfl ?_
  have hi9 := hIU.trans hI
  have hB5 := HB4.out.trans (hFU.below HB4.out.size (fun k hk => by rw [hk]; exact Nat.le_refl _))
  exact ⟨⟨_,by rw [decide_eq_false (show ¬ vn < s by omega)]; rfl,p,q4,c4,by simp only [stV,fldR,hbl],HP.out w9 ((Imm.of_below HB4.out).trans hi9),HR4.out.1.imm hi9,HR4.out.2⟩,hB5.trans (hF.below hB5.size (fun k hk => by rw [hk]; exact Nat.le_succ _))⟩

end Go.Proofs.YtcibcfghkidncaaGreatDoor

namespace Go.Proofs.YtcibcfghkidncaaGreatDoor
open Go.RowKit
set_option maxRecDepth 100000

def sln:Value → Nat
 | .slice _ n _ => n
 | _ => 0
theorem sln_own {w:World} {B T s:Nat} {v:Value} {n:Nat} {xs:List Value} (h:w.ownsRow B T s v n xs):sln v = n := by
 rcases h.2 with ⟨rfl,rfl⟩ | ⟨g,cap,cur,rfl,_⟩
 ·rfl
 ·rfl

set_option maxHeartbeats 4000000 in
theorem versions_any (p q:Option Addr) (n c K:Nat) (tx:Int) (L:List Rw) (w:World) (h:Pst w p L) (hl:L.length ≤ K) (hK:K ≤ 3518437208882) :
  Calls Tryz.prog 63 #[.agg #[.pointer p,.int .i64 tx,.slice q n c]] w fun e w' => (∃ v Z,e = .returned v ∧ Z.map Prod.fst = L ∧ HasRs .u64 81 w' w.heap.size v Z) ∧ Below w.heap.size w w' := by
 have HP:Hid (Pst w p L) := h
 obtain ⟨HX,HB,HS⟩ := one_new w #[.pointer p,.int .i64 tx,.slice q n c] 125
 have HX1:Hid (Box (w.alloc (.cells #[.pointer p,.int .i64 tx,.slice q n c] 125)) w.heap.size #[.pointer p,.int .i64 tx,.slice q n c] 125) := HX
 have HB1:Hid (Below w.heap.size w (w.alloc (.cells #[.pointer p,.int .i64 tx,.slice q n c] 125))) := HB
 obtain ⟨⟨x0,x1,x2⟩,x3,x4,x5⟩ := box3 HX
 clear h HX HB HS
 go_enter Tryz.func63,Tryz.ntmps63
 go_wp2_with fail
 generalize (w.alloc (.cells #[.pointer p,.int .i64 tx,.slice q n c] 125)) = w1 at *
 go_loopw [3,4] (fun v i wr => ∃ (j:Nat) (Z:List (Rw × Value)) (px:Option Addr),j ≤ L.length ∧ i = .pointer px ∧ Hid (Pst w px (L.drop j)) ∧ Hid (Z.map Prod.fst = L.take j) ∧ Hid (HasRs .u64 81 wr w.heap.size v Z) ∧ Below w.heap.size w wr) (fun v _ _ => L.length + 1 - sln v)
 case atStart => exact ⟨0,[],p,Nat.zero_le _,rfl,HP,rfl,HasRs.nil _ _ _ _,HB1.out⟩
 case round =>
  obtain ⟨j,Z,px,hj,rfl,hP,hZ,hO,hn⟩ := hrel
  have hZl:Z.length = j := by
   have := congrArg List.length hZ.out
   rw [List.length_map,List.length_take] at this
   omega
  obtain ⟨pv,cv,rfl,_⟩ := owns_len hO.out.1
  by_cases hj0:j = L.length
  ·have hP' := hP.out
   rw [hj0,List.drop_length] at hP'
   cases hP'
   have HZ2:Hid (Z.map Prod.fst = L) := by
    show _ = _
    rw [hZ.out,hj0,List.take_length]
   clear hZ hP
   go_wp2
   go_ret
   exact ⟨⟨_,Z,rfl,HZ2.out,hO.out⟩,hn⟩
  ·have hj1:j < L.length := by omega
   have hP' := hP.out
   rw [List.drop_eq_getElem_cons hj1] at hP'
   obtain ⟨g,q1,d1,nx,rfl,hg,hs1,hP2⟩ := hP'
   have HP2:Hid (Pst w nx (L.drop (j + 1))) := hP2
   have hgw := (hn.block g (lt_of_block hg)).trans hg
   have a0:wr.cell? ⟨g,0,none⟩ = some (.int .u64 L[j].n) := by simp [World.cell?,hgw]
   have a1:wr.cell? ⟨g,1,none⟩ = some (.bool L[j].gn) := by simp [World.cell?,hgw]
   have a2:wr.cell? ⟨g,2,none⟩ = some (.slice q1 L[j].row.length d1) := by simp [World.cell?,hgw]
   have a3:wr.cell? ⟨g,3,none⟩ = some (.pointer nx) := by simp [World.cell?,hgw]
   have HBg:Hid (wr.heap[g]? = some (.cells #[.int .u64 L[j].n,.bool L[j].gn,.slice q1 L[j].row.length d1,.pointer nx] 167 (0,0))) := hgw
   have hgl := lt_of_block hg
   have HZV:Hid (SlV wr w.heap.size (.slice q1 L[j].row.length d1) L[j].row) := hs1.keep hn
   have HXc:Hid (∀ v,rcell .u64 (L[j],v) = [.int .u64 L[j].n,.bool L[j].gn,v]) := fun v => rfl
   have HTk:Hid ((Z ++ [((L[j]:Rw),(Value.slice q1 L[j].row.length d1:Value))]).map Prod.fst = L.take (j + 1)) := by
    show _ = _
    rw [List.map_append,hZ.out,List.take_add_one,List.getElem?_eq_getElem hj1]
    rfl
   have hszr := hn.size
   clear hg hs1 hP2 hP hZ hgw
   obtain ⟨xn,hxn⟩:∃ x,L[j].n = x := ⟨_,rfl⟩
   obtain ⟨xg,hxg⟩:∃ x,L[j].gn = x := ⟨_,rfl⟩
   obtain ⟨xl,hxl⟩:∃ x,L[j].row.length = x := ⟨_,rfl⟩
   rw [hxn] at a0 HBg HXc
   rw [hxg] at a1 HBg HXc
   rw [hxl] at a2 HBg HZV HTk
   have Hz:Hid (rcell .u64 (L[j],.slice q1 xl d1) = [.int .u64 xn,.bool xg,.slice q1 xl d1]) := HXc.out _
   clear hxn hxg hxl HXc
   go_wp2_with (first | (at_builtin; go_loud (refine wpList_app1 wr rfl (.tmp 13) (.tmp 18) 81 72 _ 3 40 rfl Tryz.underlying72 info_ver rfl (by decide) w.heap.size _ _ _ (by rfl) hO.out.1 [.int .u64 xn,.bool xg,.slice q1 xl d1] rfl (by simp [Value.oneCell']) _ rfl (by simp) (by omega) (by omega) hszr ?_); intro v6 w6 h6 h7 h8; have b3:w6.cell? ⟨g,3,none⟩ = some (.pointer nx) := (h7.cell (p := ⟨g,3,none⟩) hgl).trans a3))
   have H6:Hid (HasRs .u64 81 w6 w.heap.size v6 (Z ++ [(L[j],.slice q1 xl d1)])) := hO.out.app (z := (L[j],.slice q1 xl d1)) HZV.out (by rw [Hz.out]; exact h6) h7
   have HB6:Hid (Below w.heap.size w w6) := hn.trans h7
   have Hs6:Hid (sln v6 = j + 1) := by
    have := sln_own H6.out.1
    rw [List.length_append] at this
    show _ = _
    rw [this]
    simp [hZl]
   clear h6 h7 h8 a0 a1 a2 a3
   go_roundw
   case rel => exact ⟨j + 1,Z ++ [(L[j],.slice q1 xl d1)],nx,hj1,rfl,HP2,HTk,H6,HB6.out⟩
   case measure => rw [Hs6.out]; simp only [sln]; omega

theorem goneT_nil {r:Rs} (h:r.L = []):goneT r = true := by unfold goneT; rw [h]
theorem goneT_cons {r:Rs} {v:Rw} {l:List Rw} (h:r.L = v :: l):goneT r = v.gn := by unfold goneT; rw [h]
theorem setR_gone {r:Rs} {v:Rw} {s:Int} (hv:lastW r = some v) (h:(v.gn && goneT r) = true):setR s r = ⟨r.L,0,[]⟩ := by
 unfold setR
 rw [hv]
 simp only [h,if_true]
theorem setR_ver {r:Rs} {v:Rw} {s:Int} (hv:lastW r = some v) (h:(v.gn && goneT r) = false):setR s r = ⟨⟨s,v.gn,v.row⟩ :: r.L,0,[]⟩ := by
 unfold setR
 rw [hv]
 simp [h]

set_option maxHeartbeats 4000000 in
theorem settle_st (p q:Option Addr) (c K:Nat) (r:Rs) (v:Rw) (s:Int) (w:World) (h:StR w p q c r) (hv:lastW r = some v) (hk:OkR K r) (hK:K ≤ 3518437208882) :
  Calls Tryz.prog 76 #[stV p q c r,.int .u64 s] w fun e w' => (∃ v',e = .returned v' ∧ StV w' v' (setR s r)) ∧ Below w.heap.size w w' := by
 have HG:Hid ((v.gn && goneT r) = true → setR s r = ⟨r.L,0,[]⟩) := setR_gone hv
 have HV:Hid ((v.gn && goneT r) = false → setR s r = ⟨⟨s,v.gn,v.row⟩ :: r.L,0,[]⟩) := setR_ver hv
 have HN1:Hid (r.L = [] → goneT r = true) := goneT_nil
 have HN2:Hid (∀ u l,r.L = u :: l → goneT r = u.gn) := fun u l => goneT_cons
 generalize setR s r = sr at *
 generalize goneT r = gt at *
 obtain ⟨L,tx,W⟩ := r
 have HP:Hid (Pst w p L) := h.pst
 have C1:Hid (∀ w1,Below w.heap.size w w1 → Calls Tryz.prog 88 #[stV p q c ⟨L,tx,W⟩] w1 fun e w' => (∃ qv cv,e = .returned (.agg #[.int .i64 v.n,.bool v.gn,.slice qv v.row.length cv]) ∧ SlV w1 w1.heap.size (.slice qv v.row.length cv) v.row) ∧ Below w1.heap.size w1 w') := fun w1 h1 => last_any p q c ⟨L,tx,W⟩ v w1 (h.rd.on h1) hv (by have := hk.nW; show W.length ≤ _; have:W.length ≤ K := this; omega)
 have HX0 := two_new w #[.pointer p,.int .i64 tx,.slice q W.length c] #[.pointer none,.int .i64 0,.slice none 0 0] 125 125
 clear h hv hk
 simp only [stV] at *
 generalize hn:W.length = n at *
 have HX:Hid (Box ((w.alloc (.cells #[.pointer p,.int .i64 tx,.slice q n c] 125)).alloc (.cells #[.pointer none,.int .i64 0,.slice none 0 0] 125)) w.heap.size #[.pointer p,.int .i64 tx,.slice q n c] 125 ∧ Box ((w.alloc (.cells #[.pointer p,.int .i64 tx,.slice q n c] 125)).alloc (.cells #[.pointer none,.int .i64 0,.slice none 0 0] 125)) (w.heap.size + 1) #[.pointer none,.int .i64 0,.slice none 0 0] 125 ∧ Below w.heap.size w ((w.alloc (.cells #[.pointer p,.int .i64 tx,.slice q n c] 125)).alloc (.cells #[.pointer none,.int .i64 0,.slice none 0 0] 125)) ∧ ((w.alloc (.cells #[.pointer p,.int .i64 tx,.slice q n c] 125)).alloc (.cells #[.pointer none,.int .i64 0,.slice none 0 0] 125)).heap.size = w.heap.size + 2) := HX0
 clear HX0 hn
 go_enter Tryz.func76,Tryz.ntmps76
 go_wp2_with fail
 generalize ((w.alloc (.cells #[.pointer p,.int .i64 tx,.slice q n c] 125)).alloc (.cells #[.pointer none,.int .i64 0,.slice none 0 0] 125)) = w2 at *
 refine (C1.out _ HX.out.2.2.1).mono ?_
 rintro e w3 ⟨⟨qv,cv,rfl,hs3⟩,hb3⟩
 have HB3:Hid (Below w.heap.size w w3) := HX.out.2.2.1.trans (hb3.mono HX.out.2.2.1.size)
 have HX3:Hid (Box w3 w.heap.size #[.pointer p,.int .i64 tx,.slice q n c] 125 ∧ Box w3 (w.heap.size + 1) #[.pointer none,.int .i64 0,.slice none 0 0] 125) := ⟨HX.out.1.on hb3,HX.out.2.1.on hb3⟩
 have HS3:Hid (SlV w3 w3.heap.size (.slice qv v.row.length cv) v.row) := (hs3.keep hb3).mono hb3.size
 have h3s:w.heap.size + 2 ≤ w3.heap.size := by rw [← HX.out.2.2.2]; exact hb3.size
 obtain ⟨⟨x0,x1,x2⟩,x3,x4,x5⟩ := box3 HX3.out.1
 obtain ⟨⟨y0,y1,y2⟩,y3,y4,y5⟩ := box3 HX3.out.2
 clear hb3 HX C1 hs3
 obtain ⟨vg,hvg⟩:∃ x,v.gn = x := ⟨_,rfl⟩
 obtain ⟨vl,hvl⟩:∃ x,v.row.length = x := ⟨_,rfl⟩
 rw [hvl] at HS3 ⊢
 rw [hvg] at HG HV ⊢
 generalize v.n = vn at *
 cases vg with
 | false =>
  have HB4:Hid (Below w3.heap.size w3 (w3.alloc (.cells #[.int .i64 vn,.bool false,.slice qv vl cv] 38))) := by
   show Below _ _ _
   go_grown
  have h4s:(w3.alloc (.cells #[.int .i64 vn,.bool false,.slice qv vl cv] 38)).heap.size = w3.heap.size + 1 := by simp
  have HX4:Hid (Box (w3.alloc (.cells #[.int .i64 vn,.bool false,.slice qv vl cv] 38)) w.heap.size #[.pointer p,.int .i64 tx,.slice q n c] 125 ∧ Box (w3.alloc (.cells #[.int .i64 vn,.bool false,.slice qv vl cv] 38)) (w.heap.size + 1) #[.pointer none,.int .i64 0,.slice none 0 0] 125 ∧ Box (w3.alloc (.cells #[.int .i64 vn,.bool false,.slice qv vl cv] 38)) w3.heap.size #[.int .i64 vn,.bool false,.slice qv vl cv] 38) := ⟨HX3.out.1.on HB4.out,HX3.out.2.on HB4.out,Box.new _ _ _⟩
  obtain ⟨⟨x0,x1,x2⟩,x3,x4,x5⟩ := box3 HX4.out.1
  obtain ⟨⟨y0,y1,y2⟩,y3,y4,y5⟩ := box3 HX4.out.2.1
  obtain ⟨hU,hIU,hFU⟩ := st_int HX4.out.1 0 none 0 0
  have hV5 := HX4.out.2.2.frm hFU (show ¬ w3.heap.size = w.heap.size by omega)
  have hY5 := HX4.out.2.1.frm hFU (show ¬ w.heap.size + 1 = w.heap.size by omega)
  obtain ⟨⟨v0,v1,v2⟩,_⟩ := box3 hV5
  obtain ⟨⟨u0,u1,u2⟩,u3,u4,u5⟩ := box3 hU
  obtain ⟨⟨t0,t1,t2⟩,t3,t4,t5⟩ := box3 hY5
  have HU:Hid _ := And.intro hU (And.intro hIU (And.intro hFU (And.intro hV5 hY5)))
  have h5s:(((w3.alloc (.cells #[.int .i64 vn,.bool false,.slice qv vl cv] 38)).setCell ⟨w.heap.size,1,none⟩ (.int .i64 0)).setCell ⟨w.heap.size,2,none⟩ (.slice none 0 0)).heap.size = w3.heap.size + 1 := by rw [size_set,size_set,h4s]
  have hB6:Below (((w3.alloc (.cells #[.int .i64 vn,.bool false,.slice qv vl cv] 38)).setCell ⟨w.heap.size,1,none⟩ (.int .i64 0)).setCell ⟨w.heap.size,2,none⟩ (.slice none 0 0)).heap.size (((w3.alloc (.cells #[.int .i64 vn,.bool false,.slice qv vl cv] 38)).setCell ⟨w.heap.size,1,none⟩ (.int .i64 0)).setCell ⟨w.heap.size,2,none⟩ (.slice none 0 0)) ((((w3.alloc (.cells #[.int .i64 vn,.bool false,.slice qv vl cv] 38)).setCell ⟨w.heap.size,1,none⟩ (.int .i64 0)).setCell ⟨w.heap.size,2,none⟩ (.slice none 0 0)).alloc (.cells #[.int .u64 s,.bool false,.slice qv vl cv,.pointer p] 167)) := (Below.refl _ _).alloc (Nat.le_refl _) _
  have hU6 := hU.on hB6
  have hY6 := hY5.on hB6
  obtain ⟨hU7,hI7,hF7⟩ := st_ptr hU6 (some ⟨w3.heap.size + 1,0,none⟩)
  have hY7 := hY6.frm hF7 (show ¬ w.heap.size + 1 = w.heap.size by omega)
  have hG6:((((w3.alloc (.cells #[.int .i64 vn,.bool false,.slice qv vl cv] 38)).setCell ⟨w.heap.size,1,none⟩ (.int .i64 0)).setCell ⟨w.heap.size,2,none⟩ (.slice none 0 0)).alloc (.cells #[.int .u64 s,.bool false,.slice qv vl cv,.pointer p] 167)).heap[w3.heap.size + 1]? = some (.cells #[.int .u64 s,.bool false,.slice qv vl cv,.pointer p] 167) := by
   have h9 := heap_alloc_new (((w3.alloc (.cells #[.int .i64 vn,.bool false,.slice qv vl cv] 38)).setCell ⟨w.heap.size,1,none⟩ (.int .i64 0)).setCell ⟨w.heap.size,2,none⟩ (.slice none 0 0)) (.cells #[.int .u64 s,.bool false,.slice qv vl cv,.pointer p] 167)
   rw [h5s] at h9
   exact h9
  obtain ⟨⟨r0,r1,r2⟩,r3,r4,r5⟩ := box3 hU6
  obtain ⟨⟨s0,s1,s2⟩,s3,s4,s5⟩ := box3 hU7
  obtain ⟨⟨n0,n1,n2⟩,n3,n4,n5⟩ := box3 hY7
  have HQ:Hid _ := And.intro hB6 (And.intro hI7 (And.intro hF7 (And.intro hY7 hG6)))
  clear hU hIU hFU hV5 hY5 hB6 hU6 hY6 hU7 hI7 hF7 hY7 hG6
  go_wp2_with fail
  obtain ⟨hB6,hI7,hF7,hY7,hG6⟩ := HQ.out
  obtain ⟨hU,hIU,hFU,hV5,hY5⟩ := HU.out
  have hb4 := HB3.out.trans (HB4.out.mono HB3.out.size)
  have hB5 := hb4.trans (hFU.below hb4.size (fun k hk => by rw [hk]; exact Nat.le_refl _))
  have hS6 := ((HS3.out.imm (Imm.of_below HB4.out)).imm hIU).imm (Imm.of_below hB6)
  have hi6 := ((Imm.of_below hb4).trans hIU).trans (Imm.of_below hB6)
  have hb6 := hB5.trans (hB6.mono hB5.size)
  generalize ((((w3.alloc (.cells #[.int .i64 vn,.bool false,.slice qv vl cv] 38)).setCell ⟨w.heap.size,1,none⟩ (.int .i64 0)).setCell ⟨w.heap.size,2,none⟩ (.slice none 0 0)).alloc (.cells #[.int .u64 s,.bool false,.slice qv vl cv,.pointer p] 167)) = w6 at *
  generalize w6.setCell ⟨w.heap.size,0,none⟩ (.pointer (some ⟨w3.heap.size + 1,0,none⟩)) = w7 at *
  obtain ⟨hZ,hI,hF⟩ := st_store hY7 (some ⟨w3.heap.size + 1,0,none⟩) 0 none 0 0
  generalize ((w7.setCell ⟨w.heap.size + 1,0,none⟩ (.pointer (some ⟨w3.heap.size + 1,0,none⟩))).setCell ⟨w.heap.size + 1,1,none⟩ (.int .i64 0)).setCell ⟨w.heap.size + 1,2,none⟩ (.slice none 0 0) = w9 at *
  obtain ⟨⟨z0,z1,z2⟩,_⟩ := box3 hZ
  (try simp only [Exit.inBlock,Exit.then])
  refine bodyPost_ret (v := .agg #[.pointer (some ⟨w3.heap.size + 1,0,none⟩),.int .i64 0,.slice none 0 0]) (by simp [results,Tryz.results76,go_sem,z0,z1,z2]) rfl ?_
  have hi9 := hI7.trans hI
  have hB7 := hb6.trans (hF7.below hb6.size (fun k hk => by rw [hk]; exact Nat.le_refl _))
  rw [HV.out (by simp)]
  exact ⟨⟨_,rfl,(some ⟨w3.heap.size + 1,0,none⟩),none,0,rfl,⟨⟨w3.heap.size + 1,qv,cv,p,rfl,by rw [hvl]; exact past_imm hG6 hi9,by rw [hvl]; exact hS6.imm hi9,HP.out.imm (hi6.trans hi9)⟩,RdR.nil _ _ _,fun _ => rfl⟩⟩,hB7.trans (hF.below hB7.size (fun k hk => by rw [hk]; exact Nat.le_succ _))⟩
 | true =>
  cases L with
  | nil =>
   have hp := HP.out
   cases hp
   have HB4:Hid (Below w3.heap.size w3 (w3.alloc (.cells #[.int .i64 vn,.bool true,.slice qv vl cv] 38))) := by
    show Below _ _ _
    go_grown
   have h4s:(w3.alloc (.cells #[.int .i64 vn,.bool true,.slice qv vl cv] 38)).heap.size = w3.heap.size + 1 := by simp
   have HX4:Hid (Box (w3.alloc (.cells #[.int .i64 vn,.bool true,.slice qv vl cv] 38)) w.heap.size #[.pointer none,.int .i64 tx,.slice q n c] 125 ∧ Box (w3.alloc (.cells #[.int .i64 vn,.bool true,.slice qv vl cv] 38)) (w.heap.size + 1) #[.pointer none,.int .i64 0,.slice none 0 0] 125 ∧ Box (w3.alloc (.cells #[.int .i64 vn,.bool true,.slice qv vl cv] 38)) w3.heap.size #[.int .i64 vn,.bool true,.slice qv vl cv] 38) := ⟨HX3.out.1.on HB4.out,HX3.out.2.on HB4.out,Box.new _ _ _⟩
   obtain ⟨⟨x0,x1,x2⟩,x3,x4,x5⟩ := box3 HX4.out.1
   obtain ⟨⟨y0,y1,y2⟩,y3,y4,y5⟩ := box3 HX4.out.2.1
   obtain ⟨hU,hIU,hFU⟩ := st_int HX4.out.1 0 none 0 0
   have hV5 := HX4.out.2.2.frm hFU (show ¬ w3.heap.size = w.heap.size by omega)
   have hY5 := HX4.out.2.1.frm hFU (show ¬ w.heap.size + 1 = w.heap.size by omega)
   obtain ⟨⟨v0,v1,v2⟩,_⟩ := box3 hV5
   obtain ⟨⟨u0,u1,u2⟩,u3,u4,u5⟩ := box3 hU
   obtain ⟨⟨t0,t1,t2⟩,t3,t4,t5⟩ := box3 hY5
   have HU:Hid _ := And.intro hU (And.intro hIU (And.intro hFU (And.intro hV5 hY5)))
   clear hU hIU hFU hV5 hY5
   go_wp2_with fail
   obtain ⟨hU,hIU,hFU,hV5,hY5⟩ := HU.out
   generalize (((w3.alloc (.cells #[.int .i64 vn,.bool true,.slice qv vl cv] 38)).setCell ⟨w.heap.size,1,none⟩ (.int .i64 0)).setCell ⟨w.heap.size,2,none⟩ (.slice none 0 0)) = w5 at *
   obtain ⟨hZ,hI,hF⟩ := st_store hY5 none 0 none 0 0
   generalize ((w5.setCell ⟨w.heap.size + 1,0,none⟩ (.pointer none)).setCell ⟨w.heap.size + 1,1,none⟩ (.int .i64 0)).setCell ⟨w.heap.size + 1,2,none⟩ (.slice none 0 0) = w9 at *
   obtain ⟨⟨z0,z1,z2⟩,_⟩ := box3 hZ
   (try simp only [Exit.inBlock,Exit.then])
   refine bodyPost_ret (v := .agg #[.pointer none,.int .i64 0,.slice none 0 0]) (by simp [results,Tryz.results76,go_sem,z0,z1,z2]) rfl ?_
   have hb4 := HB3.out.trans (HB4.out.mono HB3.out.size)
   have hi9 := (Imm.of_below hb4).trans (hIU.trans hI)
   have hB5 := hb4.trans (hFU.below hb4.size (fun k hk => by rw [hk]; exact Nat.le_refl _))
   rw [HG.out (by rw [HN1.out (by simp)]; rfl)]
   exact ⟨⟨_,rfl,none,none,0,rfl,HP.out.imm hi9,RdR.nil _ _ _,fun _ => rfl⟩,hB5.trans (hF.below hB5.size (fun k hk => by rw [hk]; exact Nat.le_succ _))⟩
  | cons u l =>
   have hp := HP.out
   obtain ⟨g,q1,c1,nx,rfl,hg,_⟩ := hp
   have hug := HN2.out u l rfl
   have hgl := lt_of_block hg
   have HB4:Hid (Below w3.heap.size w3 (w3.alloc (.cells #[.int .i64 vn,.bool true,.slice qv vl cv] 38))) := by
    show Below _ _ _
    go_grown
   have h4s:(w3.alloc (.cells #[.int .i64 vn,.bool true,.slice qv vl cv] 38)).heap.size = w3.heap.size + 1 := by simp
   have HX4:Hid (Box (w3.alloc (.cells #[.int .i64 vn,.bool true,.slice qv vl cv] 38)) w.heap.size #[.pointer (some ⟨g,0,none⟩),.int .i64 tx,.slice q n c] 125 ∧ Box (w3.alloc (.cells #[.int .i64 vn,.bool true,.slice qv vl cv] 38)) (w.heap.size + 1) #[.pointer none,.int .i64 0,.slice none 0 0] 125 ∧ Box (w3.alloc (.cells #[.int .i64 vn,.bool true,.slice qv vl cv] 38)) w3.heap.size #[.int .i64 vn,.bool true,.slice qv vl cv] 38) := ⟨HX3.out.1.on HB4.out,HX3.out.2.on HB4.out,Box.new _ _ _⟩
   obtain ⟨⟨x0,x1,x2⟩,x3,x4,x5⟩ := box3 HX4.out.1
   obtain ⟨⟨y0,y1,y2⟩,y3,y4,y5⟩ := box3 HX4.out.2.1
   obtain ⟨hU,hIU,hFU⟩ := st_int HX4.out.1 0 none 0 0
   have hV5 := HX4.out.2.2.frm hFU (show ¬ w3.heap.size = w.heap.size by omega)
   have hY5 := HX4.out.2.1.frm hFU (show ¬ w.heap.size + 1 = w.heap.size by omega)
   obtain ⟨⟨v0,v1,v2⟩,_⟩ := box3 hV5
   obtain ⟨⟨u0,u1,u2⟩,u3,u4,u5⟩ := box3 hU
   obtain ⟨⟨t0,t1,t2⟩,t3,t4,t5⟩ := box3 hY5
   have HU:Hid _ := And.intro hU (And.intro hIU (And.intro hFU (And.intro hV5 hY5)))
   have gc:(((w3.alloc (.cells #[.int .i64 vn,.bool true,.slice qv vl cv] 38)).setCell ⟨w.heap.size,1,none⟩ (.int .i64 0)).setCell ⟨w.heap.size,2,none⟩ (.slice none 0 0)).cell? ⟨g,1,none⟩ = some (.bool u.gn) := by
    have h9 := past_imm hg (((Imm.of_below HB3.out).trans (Imm.of_below HB4.out)).trans hIU)
    simp [World.cell?,h9]
   obtain ⟨ug,hu⟩:∃ x,u.gn = x := ⟨_,rfl⟩
   rw [hu] at gc hug
   clear hg
   cases ug with
   | true =>
    clear hU hIU hFU hV5 hY5
    go_wp2_with fail
    obtain ⟨hU,hIU,hFU,hV5,hY5⟩ := HU.out
    generalize (((w3.alloc (.cells #[.int .i64 vn,.bool true,.slice qv vl cv] 38)).setCell ⟨w.heap.size,1,none⟩ (.int .i64 0)).setCell ⟨w.heap.size,2,none⟩ (.slice none 0 0)) = w5 at *
    obtain ⟨hZ,hI,hF⟩ := st_store hY5 (some ⟨g,0,none⟩) 0 none 0 0
    generalize ((w5.setCell ⟨w.heap.size + 1,0,none⟩ (.pointer (some ⟨g,0,none⟩))).setCell ⟨w.heap.size + 1,1,none⟩ (.int .i64 0)).setCell ⟨w.heap.size + 1,2,none⟩ (.slice none 0 0) = w9 at *
    obtain ⟨⟨z0,z1,z2⟩,_⟩ := box3 hZ
    (try simp only [Exit.inBlock,Exit.then])
    refine bodyPost_ret (v := .agg #[.pointer (some ⟨g,0,none⟩),.int .i64 0,.slice none 0 0]) (by simp [results,Tryz.results76,go_sem,z0,z1,z2]) rfl ?_
    have hb4 := HB3.out.trans (HB4.out.mono HB3.out.size)
    have hi9 := (Imm.of_below hb4).trans (hIU.trans hI)
    have hB5 := hb4.trans (hFU.below hb4.size (fun k hk => by rw [hk]; exact Nat.le_refl _))
    rw [HG.out (by rw [hug]; rfl)]
    exact ⟨⟨_,rfl,(some ⟨g,0,none⟩),none,0,rfl,HP.out.imm hi9,RdR.nil _ _ _,fun _ => rfl⟩,hB5.trans (hF.below hB5.size (fun k hk => by rw [hk]; exact Nat.le_succ _))⟩
   | false =>
    have h5s:(((w3.alloc (.cells #[.int .i64 vn,.bool true,.slice qv vl cv] 38)).setCell ⟨w.heap.size,1,none⟩ (.int .i64 0)).setCell ⟨w.heap.size,2,none⟩ (.slice none 0 0)).heap.size = w3.heap.size + 1 := by rw [size_set,size_set,h4s]
    have hB6:Below (((w3.alloc (.cells #[.int .i64 vn,.bool true,.slice qv vl cv] 38)).setCell ⟨w.heap.size,1,none⟩ (.int .i64 0)).setCell ⟨w.heap.size,2,none⟩ (.slice none 0 0)).heap.size (((w3.alloc (.cells #[.int .i64 vn,.bool true,.slice qv vl cv] 38)).setCell ⟨w.heap.size,1,none⟩ (.int .i64 0)).setCell ⟨w.heap.size,2,none⟩ (.slice none 0 0)) ((((w3.alloc (.cells #[.int .i64 vn,.bool true,.slice qv vl cv] 38)).setCell ⟨w.heap.size,1,none⟩ (.int .i64 0)).setCell ⟨w.heap.size,2,none⟩ (.slice none 0 0)).alloc (.cells #[.int .u64 s,.bool true,.slice qv vl cv,.pointer (some ⟨g,0,none⟩)] 167)) := (Below.refl _ _).alloc (Nat.le_refl _) _
    have hU6 := hU.on hB6
    have hY6 := hY5.on hB6
    obtain ⟨hU7,hI7,hF7⟩ := st_ptr hU6 (some ⟨w3.heap.size + 1,0,none⟩)
    have hY7 := hY6.frm hF7 (show ¬ w.heap.size + 1 = w.heap.size by omega)
    have hG6:((((w3.alloc (.cells #[.int .i64 vn,.bool true,.slice qv vl cv] 38)).setCell ⟨w.heap.size,1,none⟩ (.int .i64 0)).setCell ⟨w.heap.size,2,none⟩ (.slice none 0 0)).alloc (.cells #[.int .u64 s,.bool true,.slice qv vl cv,.pointer (some ⟨g,0,none⟩)] 167)).heap[w3.heap.size + 1]? = some (.cells #[.int .u64 s,.bool true,.slice qv vl cv,.pointer (some ⟨g,0,none⟩)] 167) := by
     have h9 := heap_alloc_new (((w3.alloc (.cells #[.int .i64 vn,.bool true,.slice qv vl cv] 38)).setCell ⟨w.heap.size,1,none⟩ (.int .i64 0)).setCell ⟨w.heap.size,2,none⟩ (.slice none 0 0)) (.cells #[.int .u64 s,.bool true,.slice qv vl cv,.pointer (some ⟨g,0,none⟩)] 167)
     rw [h5s] at h9
     exact h9
    obtain ⟨⟨r0,r1,r2⟩,r3,r4,r5⟩ := box3 hU6
    obtain ⟨⟨s0,s1,s2⟩,s3,s4,s5⟩ := box3 hU7
    obtain ⟨⟨n0,n1,n2⟩,n3,n4,n5⟩ := box3 hY7
    have HQ:Hid _ := And.intro hB6 (And.intro hI7 (And.intro hF7 (And.intro hY7 hG6)))
    clear hU hIU hFU hV5 hY5 hB6 hU6 hY6 hU7 hI7 hF7 hY7 hG6
    go_wp2_with fail
    obtain ⟨hB6,hI7,hF7,hY7,hG6⟩ := HQ.out
    obtain ⟨hU,hIU,hFU,hV5,hY5⟩ := HU.out
    have hb4 := HB3.out.trans (HB4.out.mono HB3.out.size)
    have hB5 := hb4.trans (hFU.below hb4.size (fun k hk => by rw [hk]; exact Nat.le_refl _))
    have hS6 := ((HS3.out.imm (Imm.of_below HB4.out)).imm hIU).imm (Imm.of_below hB6)
    have hi6 := ((Imm.of_below hb4).trans hIU).trans (Imm.of_below hB6)
    have hb6 := hB5.trans (hB6.mono hB5.size)
    generalize ((((w3.alloc (.cells #[.int .i64 vn,.bool true,.slice qv vl cv] 38)).setCell ⟨w.heap.size,1,none⟩ (.int .i64 0)).setCell ⟨w.heap.size,2,none⟩ (.slice none 0 0)).alloc (.cells #[.int .u64 s,.bool true,.slice qv vl cv,.pointer (some ⟨g,0,none⟩)] 167)) = w6 at *
    generalize w6.setCell ⟨w.heap.size,0,none⟩ (.pointer (some ⟨w3.heap.size + 1,0,none⟩)) = w7 at *
    obtain ⟨hZ,hI,hF⟩ := st_store hY7 (some ⟨w3.heap.size + 1,0,none⟩) 0 none 0 0
    generalize ((w7.setCell ⟨w.heap.size + 1,0,none⟩ (.pointer (some ⟨w3.heap.size + 1,0,none⟩))).setCell ⟨w.heap.size + 1,1,none⟩ (.int .i64 0)).setCell ⟨w.heap.size + 1,2,none⟩ (.slice none 0 0) = w9 at *
    obtain ⟨⟨z0,z1,z2⟩,_⟩ := box3 hZ
    (try simp only [Exit.inBlock,Exit.then])
    refine bodyPost_ret (v := .agg #[.pointer (some ⟨w3.heap.size + 1,0,none⟩),.int .i64 0,.slice none 0 0]) (by simp [results,Tryz.results76,go_sem,z0,z1,z2]) rfl ?_
    have hi9 := hI7.trans hI
    have hB7 := hb6.trans (hF7.below hb6.size (fun k hk => by rw [hk]; exact Nat.le_refl _))
    rw [HV.out (by rw [hug]; rfl)]
    exact ⟨⟨_,rfl,(some ⟨w3.heap.size + 1,0,none⟩),none,0,rfl,⟨⟨w3.heap.size + 1,qv,cv,(some ⟨g,0,none⟩),rfl,by rw [hvl]; exact past_imm hG6 hi9,by rw [hvl]; exact hS6.imm hi9,HP.out.imm (hi6.trans hi9)⟩,RdR.nil _ _ _,fun _ => rfl⟩⟩,hB7.trans (hF.below hB7.size (fun k hk => by rw [hk]; exact Nat.le_succ _))⟩

end Go.Proofs.YtcibcfghkidncaaGreatDoor

namespace Go.Proofs.YtcibcfghkidncaaGreatDoor
open Go.RowKit
set_option maxRecDepth 100000

set_option maxHeartbeats 4000000 in
theorem prune_st (p q:Option Addr) (c K:Nat) (r:Rs) (s:Int) (w:World) (h:StR w p q c r) (hk:OkR K r) (hK:K ≤ 3518437208882) :
  Calls Tryz.prog 79 #[stV p q c r,.int .u64 s] w fun e w' => (∃ v',e = .returned (.tuple #[v',.int .i64 ((r.L.length - (prnL r.L s).length:Nat):Int)]) ∧ StV w' v' (prnR s r)) ∧ Below w.heap.size w w' := by
 obtain ⟨L,tx,W⟩ := r
 have HP:Hid (Pst w p L) := h.pst
 have HR:Hid (RdR .i64 w w.heap.size q W ∧ (q = none → c = 0)) := ⟨h.rd,h.nil⟩
 have HL:Hid (L.length ≤ K ∧ shortR L) := ⟨hk.nL,hk.sL⟩
 have HX0 := two_new w #[.pointer p,.int .i64 tx,.slice q W.length c] #[.pointer none,.int .i64 0,.slice none 0 0] 125 125
 clear h hk
 simp only [stV] at *
 generalize hn:W.length = n at *
 have HX:Hid (Box ((w.alloc (.cells #[.pointer p,.int .i64 tx,.slice q n c] 125)).alloc (.cells #[.pointer none,.int .i64 0,.slice none 0 0] 125)) w.heap.size #[.pointer p,.int .i64 tx,.slice q n c] 125 ∧ Box ((w.alloc (.cells #[.pointer p,.int .i64 tx,.slice q n c] 125)).alloc (.cells #[.pointer none,.int .i64 0,.slice none 0 0] 125)) (w.heap.size + 1) #[.pointer none,.int .i64 0,.slice none 0 0] 125 ∧ Below w.heap.size w ((w.alloc (.cells #[.pointer p,.int .i64 tx,.slice q n c] 125)).alloc (.cells #[.pointer none,.int .i64 0,.slice none 0 0] 125)) ∧ ((w.alloc (.cells #[.pointer p,.int .i64 tx,.slice q n c] 125)).alloc (.cells #[.pointer none,.int .i64 0,.slice none 0 0] 125)).heap.size = w.heap.size + 2) := HX0
 clear HX0
 have C1:Hid (∀ w1,Below w.heap.size w w1 → Calls Tryz.prog 63 #[.agg #[.pointer p,.int .i64 tx,.slice q n c]] w1 fun e w' => (∃ v Z,e = .returned v ∧ Z.map Prod.fst = L ∧ HasRs .u64 81 w' w1.heap.size v Z) ∧ Below w1.heap.size w1 w') := fun w1 h1 => versions_any p q n c K tx L w1 (HP.out.imm (Imm.of_below h1)) HL.out.1 hK
 go_enter Tryz.func79,Tryz.ntmps79
 go_wp2_with fail
 generalize ((w.alloc (.cells #[.pointer p,.int .i64 tx,.slice q n c] 125)).alloc (.cells #[.pointer none,.int .i64 0,.slice none 0 0] 125)) = w2 at *
 refine (C1.out _ HX.out.2.2.1).mono ?_
 rintro e w3 ⟨⟨v3,Z3,rfl,hZ3,hO3⟩,hb3⟩
 obtain ⟨p3,c3,rfl,-,hR3⟩ := hO3.rd hb3.size hZ3
 have C2:Hid (Calls _ _ _ _ _) := prune_any L p3 c3 s w3 hR3 (by have := HL.out.1; omega) HL.out.2
 have HB3:Hid (Below w.heap.size w w3) := HX.out.2.2.1.trans (hb3.mono HX.out.2.2.1.size)
 have HX3:Hid (Box w3 w.heap.size #[.pointer p,.int .i64 tx,.slice q n c] 125 ∧ Box w3 (w.heap.size + 1) #[.pointer none,.int .i64 0,.slice none 0 0] 125) := ⟨HX.out.1.on hb3,HX.out.2.1.on hb3⟩
 have h3s:Hid (w.heap.size + 2 ≤ w3.heap.size) := by
  show _ ≤ _
  rw [← HX.out.2.2.2]
  exact hb3.size
 clear hZ3 hO3 hb3 hR3 C1 HX
 go_wp2_with fail
 refine C2.out.mono ?_
 rintro e w4 ⟨⟨v4,Z4,rfl,hZ4,hO4⟩,hb4⟩
 obtain ⟨p4,c4,rfl,-,hR4⟩ := hO4.rd hZ4
 have HB4:Hid (Below w.heap.size w w4) := HB3.out.trans (hb4.mono HB3.out.size)
 have HX4:Hid (Box w4 w.heap.size #[.pointer p,.int .i64 tx,.slice q n c] 125 ∧ Box w4 (w.heap.size + 1) #[.pointer none,.int .i64 0,.slice none 0 0] 125) := ⟨HX3.out.1.on hb4,HX3.out.2.on hb4⟩
 have h4s:Hid (w.heap.size + 2 ≤ w4.heap.size) := Nat.le_trans h3s.out hb4.size
 have HR4:Hid (RdR .u64 w4 w4.heap.size p4 (prnL L s)) := hR4
 have HLP:Hid ((prnL L s).length ≤ L.length) := prnL_len L s
 clear hZ4 hO4 hb4 hR4 C2 HX3 HB3 h3s
 have HPR:Hid (prnR s ⟨L,tx,W⟩ = ⟨prnL L s,tx,W⟩) := rfl
 obtain ⟨M,hM⟩:∃ M,M = prnL L s := ⟨_,rfl⟩
 rw [← hM] at HPR HR4 HLP ⊢
 have HM:Hid _ := hM
 clear hM
 obtain ⟨⟨x0,x1,x2⟩,x3,x4,x5⟩ := box3 HX4.out.1
 obtain ⟨hU,hIU,hFU⟩ := st_ptr HX4.out.1 none
 have hY5 := HX4.out.2.frm hFU (show ¬ w.heap.size + 1 = w.heap.size by omega)
 have HU:Hid (stB (w4.setCell ⟨w.heap.size,0,none⟩ (.pointer none)) w.heap.size none tx q n c ∧ Imm w4 (w4.setCell ⟨w.heap.size,0,none⟩ (.pointer none)) ∧ Frm w4 (w4.setCell ⟨w.heap.size,0,none⟩ (.pointer none)) (one1 w.heap.size) ∧ Box (w4.setCell ⟨w.heap.size,0,none⟩ (.pointer none)) (w.heap.size + 1) #[.pointer none,.int .i64 0,.slice none 0 0] 125) := ⟨hU,hIU,hFU,hY5⟩
 clear hU hIU hFU hY5
 have HML:Hid (M.length ≤ 3518437208882) := Nat.le_trans HLP.out (Nat.le_trans HL.out.1 hK)
 obtain ⟨ml,hml⟩:∃ x,M.length = x := ⟨_,rfl⟩
 have hml9:ml ≤ 3518437208882 := by rw [← hml]; exact HML.out
 simp only [hml]
 go_wp2_with fail
 generalize w4.setCell ⟨w.heap.size,0,none⟩ (.pointer none) = w5 at *
 go_loopw [8] (fun i wr => ∃ (j:Nat) (px:Option Addr),j ≤ ml ∧ i = .int .i64 ((j:Int) - 1) ∧ Hid (stB wr w.heap.size px tx q n c) ∧ Hid (Box wr (w.heap.size + 1) #[.pointer none,.int .i64 0,.slice none 0 0] 125) ∧ Hid (Pst wr px (M.drop j)) ∧ Hid (Imm w4 wr) ∧ Hid (Below w.heap.size w wr)) (fun i _ => (intOf i + 1).toNat)
 case atStart => exact ⟨ml,none,Nat.le_refl _,by go_num,HU.out.1,HU.out.2.2.2,by show Pst _ _ _; rw [← hml,List.drop_length]; rfl,HU.out.2.1,HB4.out.trans (HU.out.2.2.1.below HB4.out.size (fun k hk => by rw [hk]; exact Nat.le_refl _))⟩
 case round =>
  obtain ⟨j,px,hj,rfl,hx,hy,hP,hI,hB⟩ := hrel
  obtain ⟨⟨a0,a1,a2⟩,a3,a4,a5⟩ := box3 hx.out
  obtain ⟨⟨b0,b1,b2⟩,b3,b4,b5⟩ := box3 hy.out
  by_cases hj0:j = 0
  ·subst hj0
   go_wp2_with fail
   obtain ⟨hZ,hI9,hF⟩ := st_store hy.out px tx q n c
   generalize ((wr.setCell ⟨w.heap.size + 1,0,none⟩ (.pointer px)).setCell ⟨w.heap.size + 1,1,none⟩ (.int .i64 tx)).setCell ⟨w.heap.size + 1,2,none⟩ (.slice q n c) = w9 at *
   obtain ⟨⟨z0,z1,z2⟩,_⟩ := box3 hZ
   (try simp only [Exit.inBlock,Exit.then])
   refine bodyPost_ret (v := .tuple #[.agg #[.pointer px,.int .i64 tx,.slice q n c],.int .i64 ((L.length - ml:Nat):Int)]) (by simp [results,Tryz.results79,go_sem,z0,z1,z2]) rfl ?_
   have hi9 := (Imm.of_below HB4.out).trans (hI.out.trans hI9)
   have hP9 := hP.out.imm hI9
   rw [List.drop_zero] at hP9
   rw [HPR.out]
   exact ⟨⟨_,by rw [← HM.out,hml],px,q,c,by simp only [stV,hn],hP9,HR.out.1.imm hi9,HR.out.2⟩,hB.out.trans (hF.below hB.out.size (fun k hk => by rw [hk]; exact Nat.le_succ _))⟩
  ·obtain ⟨i,rfl⟩:∃ i,j = i + 1 := ⟨j - 1,by omega⟩
   have hi1:i < M.length := by omega
   obtain ⟨b,o,q1,d1,rfl,hbB,c0,c1,c2,hr,hq⟩ := (HR4.out.imm hI.out) i hi1
   have HSl:Hid (SlV wr wr.heap.size (.slice q1 M[i].row.length d1) M[i].row) := ⟨q1,d1,rfl,hr,hq⟩
   have e1:(((i + 1:Nat):Int) - 1) = (i:Int) := by omega
   have HD:Hid (M.drop i = M[i] :: M.drop (i + 1)) := List.drop_eq_getElem_cons hi1
   have e2:(i:Int) < 3518437208882 := by omega
   have e3:(i:Int) < (ml:Int) := by omega
   rw [e1]
   generalize M[i] = y at *
   obtain ⟨yn,yg,yr⟩ := y
   obtain ⟨yl,hyl⟩:∃ x,yr.length = x := ⟨_,rfl⟩
   simp only [hyl] at c0 c1 c2 HSl
   clear hr hq hj0
   have hs:Hid (w.heap.size + 2 ≤ wr.heap.size) := Nat.le_trans h4s.out hI.out.size
   have hsl:w.heap.size < wr.heap.size := by have := hs.out; omega
   go_wp2_with fail
   go_region
   all_goals
    go_wp2_with fail
    go_roundw
    case rel =>
     obtain ⟨hU,hI1,hF1⟩ := st_ptr hx.out (some ⟨wr.heap.size,0,none⟩)
     have hy1 := hy.out.frm hF1 (show ¬ w.heap.size + 1 = w.heap.size by omega)
     have hs1 := size_set wr w.heap.size 0 (.pointer (some ⟨wr.heap.size,0,none⟩))
     have hB1 := hB.out.trans (hF1.below hB.out.size (fun k hk => by rw [hk]; exact Nat.le_refl _))
     generalize wr.setCell ⟨w.heap.size,0,none⟩ (.pointer (some ⟨wr.heap.size,0,none⟩)) = w6 at *
     have hb6:Below w6.heap.size w6 (w6.alloc (.cells #[.int .u64 yn,.bool yg,.slice q1 yl d1,.pointer px] 167)).drew := by go_grown
     have hg:(w6.alloc (.cells #[.int .u64 yn,.bool yg,.slice q1 yl d1,.pointer px] 167)).drew.heap[wr.heap.size]? = some (.cells #[.int .u64 yn,.bool yg,.slice q1 yl d1,.pointer px] 167) := by
      have h9 := heap_alloc_new w6 (.cells #[.int .u64 yn,.bool yg,.slice q1 yl d1,.pointer px] 167)
      rw [hs1] at h9
      exact h9
     have hi6 := hI1.trans (Imm.of_below hb6)
     exact ⟨i,_,by omega,rfl,hU.on hb6,hy1.on hb6,by
      show Pst _ _ _
      rw [HD.out]
      exact ⟨wr.heap.size,q1,d1,px,rfl,by rw [hyl]; exact hg,by rw [hyl]; exact HSl.out.imm hi6,hP.out.imm hi6⟩,hI.out.trans hi6,hB1.trans (hb6.mono hB1.size)⟩
    case measure => simp only [intOf]; omega

end Go.Proofs.YtcibcfghkidncaaGreatDoor

namespace Go.Proofs.YtcibcfghkidncaaGreatDoor
open Go.RowKit
set_option maxRecDepth 100000

theorem in_store {w:World} {g:Nat} {t:Int} {q:Option Addr} {n c:Nat} (h:Box w g #[.int .i64 t,.slice q n c] 75) (t':Int) (q':Option Addr) (n' c':Nat) :
  Box ((w.setCell ⟨g,0,none⟩ (.int .i64 t')).setCell ⟨g,1,none⟩ (.slice q' n' c')) g #[.int .i64 t',.slice q' n' c'] 75 ∧ Imm w ((w.setCell ⟨g,0,none⟩ (.int .i64 t')).setCell ⟨g,1,none⟩ (.slice q' n' c')) ∧ Frm w ((w.setCell ⟨g,0,none⟩ (.int .i64 t')).setCell ⟨g,1,none⟩ (.slice q' n' c')) (one1 g) := by
 have h1 := h.set (i := 0) (.int .i64 t')
 have h2 := h1.set (i := 1) (.slice q' n' c')
 refine ⟨h2,?_,?_⟩
 ·exact (imm_set h (pln2 ..) (by decide) _).trans (imm_set h1 (pln2 .i64 t' q n c) (by decide) _)
 ·exact (frm_set w g 0 _ (F := one1 g) (.inl rfl)).trans (frm_set _ g 1 _ (F := one1 g) (.inl rfl)) (fun k hk => .inl hk)
theorem three_new (w:World) (vs us ts:Array Value) (T U V:TypeId):Box (((w.alloc (.cells vs T)).alloc (.cells us U)).alloc (.cells ts V)) w.heap.size vs T ∧ Box (((w.alloc (.cells vs T)).alloc (.cells us U)).alloc (.cells ts V)) (w.heap.size + 1) us U ∧ Box (((w.alloc (.cells vs T)).alloc (.cells us U)).alloc (.cells ts V)) (w.heap.size + 2) ts V ∧ Below w.heap.size w (((w.alloc (.cells vs T)).alloc (.cells us U)).alloc (.cells ts V)) ∧ (((w.alloc (.cells vs T)).alloc (.cells us U)).alloc (.cells ts V)).heap.size = w.heap.size + 3 := by
 obtain ⟨h1,h2,h3,h4⟩ := two_new w vs us T U
 have hb:Below ((w.alloc (.cells vs T)).alloc (.cells us U)).heap.size ((w.alloc (.cells vs T)).alloc (.cells us U)) (((w.alloc (.cells vs T)).alloc (.cells us U)).alloc (.cells ts V)) := (Below.refl _ _).alloc (Nat.le_refl _) _
 have h5 := Box.new ((w.alloc (.cells vs T)).alloc (.cells us U)) ts V
 rw [h4] at h5
 exact ⟨h1.on hb,h2.on hb,h5,h3.trans (hb.mono h3.size),by simp⟩

def wriO (r:Rs) (txn:Int) (v:Rw) (sn:Int):Rs := if wriE r txn v sn = 0 then wriR r txn v else r
theorem wriO_no {r:Rs} {txn:Int} {v:Rw} {sn e:Int} (h:wriE r txn v sn = e) (he:e ≠ 0):wriO r txn v sn = r := by
 unfold wriO
 rw [h,if_neg he]
theorem wriO_ok {r:Rs} {txn:Int} {v:Rw} {sn:Int} (h:wriE r txn v sn = 0):wriO r txn v sn = wriR r txn v := by
 unfold wriO
 rw [h,if_pos rfl]

set_option maxHeartbeats 4000000 in
theorem write_st (p q:Option Addr) (c K:Nat) (r:Rs) (txn vn:Int) (vg:Bool) (vr:List Vl) (qv:Option Addr) (cv:Nat) (sn:Int) (w:World) (h:StR w p q c r) (hk:OkR K r) (hK:K ≤ 3518437208882) (hV:SlV w w.heap.size (.slice qv vr.length cv) vr) (hvr:vr.length ≤ 3518437208882) :
  Calls Tryz.prog 60 #[stV p q c r,.int .i64 txn,.agg #[.int .i64 vn,.bool vg,.slice qv vr.length cv],.int .u64 sn] w fun e w' => (∃ v',e = .returned (.tuple #[v',.int .i64 (wriE r txn ⟨vn,vg,vr⟩ sn)]) ∧ StV w' v' (wriO r txn ⟨vn,vg,vr⟩ sn)) ∧ Below w.heap.size w w' := by
 have HST:Hid (∀ w1,Imm w w1 → StV w1 (stV p q c r) r) := fun w1 h1 => ⟨p,q,c,rfl,h.imm h1⟩
 have C1:Hid (∀ w1,Imm w w1 → Calls Tryz.prog 52 #[stV p q c r] w1 fun e w' => e = .returned (.bool (thr r)) ∧ Below w1.heap.size w1 w') := fun w1 h1 => there_any p q c r w1 (h.pst.imm h1)
 have C2:Hid (∀ w1,Imm w w1 → Calls Tryz.prog 74 #[stV p q c r,.int .u64 sn] w1 fun e w' => e = .returned (.bool (newr r sn)) ∧ Below w1.heap.size w1 w') := fun w1 h1 => newer_any p q c r sn w1 (h.pst.imm h1)
 have C3:Hid (∀ w1,Imm w w1 → Calls Tryz.prog 56 #[.agg #[.int .i64 txn,.slice q r.W.length c],.agg #[.int .i64 vn,.bool vg,.slice qv vr.length cv]] w1 fun e w' => (∃ v Z,e = .returned (.tuple #[.agg #[.int .i64 (putT txn r.W ⟨vn,vg,vr⟩),v],.int .i64 (putE txn r.W ⟨vn,vg,vr⟩)]) ∧ Z.map Prod.fst = putL txn r.W ⟨vn,vg,vr⟩ ∧ OwnRs .i64 38 w' w1.heap.size v Z) ∧ Below w1.heap.size w1 w') := fun w1 h1 => put_any r.W q c txn vn vg vr qv cv w1 (h.rd.imm h1) (hV.imm h1) (by have := hk.nW; omega) hk.sW hvr
 have C4:Hid (∀ w1,Imm w w1 → Calls Tryz.prog 56 #[.agg #[.int .i64 txn,.slice none 0 0],.agg #[.int .i64 vn,.bool vg,.slice qv vr.length cv]] w1 fun e w' => (∃ v Z,e = .returned (.tuple #[.agg #[.int .i64 (putT txn [] ⟨vn,vg,vr⟩),v],.int .i64 (putE txn [] ⟨vn,vg,vr⟩)]) ∧ Z.map Prod.fst = putL txn [] ⟨vn,vg,vr⟩ ∧ OwnRs .i64 38 w' w1.heap.size v Z) ∧ Below w1.heap.size w1 w') := fun w1 h1 => put_any [] none 0 txn vn vg vr qv cv w1 (RdR.nil _ _ _) (hV.imm h1) (by simp) (fun i hi => absurd hi (by simp)) hvr
 have HPst:Hid (∀ w1,Imm w w1 → Pst w1 p r.L) := fun w1 h1 => h.pst.imm h1
 obtain ⟨n,hn⟩:∃ n,r.W.length = n := ⟨_,rfl⟩
 obtain ⟨vl,hvl⟩:∃ n,vr.length = n := ⟨_,rfl⟩
 obtain ⟨tx,htx⟩:∃ x,r.tx = x := ⟨_,rfl⟩
 simp only [stV,hn,hvl,htx] at HST C1 C2 C3 C4 ⊢
 have HTX:Hid (r.tx = tx) := htx
 have HN:Hid (r.W.length = n) := hn
 clear h hV hvr hK hk htx hn hvl
 have H3:Hid _ := three_new w #[.pointer p,.int .i64 tx,.slice q n c] #[.int .i64 vn,.bool vg,.slice qv vl cv] #[.pointer none,.int .i64 0,.slice none 0 0] 125 38 125
 go_enter Tryz.func60,Tryz.ntmps60
 go_wp2_with fail
 generalize (((w.alloc (.cells #[.pointer p,.int .i64 tx,.slice q n c] 125)).alloc (.cells #[.int .i64 vn,.bool vg,.slice qv vl cv] 38)).alloc (.cells #[.pointer none,.int .i64 0,.slice none 0 0] 125)) = w3 at *
 have HI3:Hid (Imm w w3) := Imm.of_below H3.out.2.2.2.1
 refine (C1.out _ HI3.out).mono ?_
 rintro e w4 ⟨rfl,hb4⟩
 have HXN:Hid (Box w4 w.heap.size #[.pointer p,.int .i64 tx,.slice q n c] 125 ∧ Box w4 (w.heap.size + 2) #[.pointer none,.int .i64 0,.slice none 0 0] 125 ∧ Box w4 (w.heap.size + 1) #[.int .i64 vn,.bool vg,.slice qv vl cv] 38) := ⟨H3.out.1.on hb4,H3.out.2.2.1.on hb4,H3.out.2.1.on hb4⟩
 have HBN:Hid (Below w.heap.size w w4) := H3.out.2.2.2.1.trans (hb4.mono H3.out.2.2.2.1.size)
 have HIN:Hid (Imm w w4) := Imm.of_below HBN.out
 have h4s:w.heap.size + 3 ≤ w4.heap.size := by rw [← H3.out.2.2.2.2]; exact hb4.size
 clear H3 HI3 hb4
 cases hth:thr r with
 | false =>
  obtain ⟨⟨x0,x1,x2⟩,x3,x4,x5⟩ := box3 HXN.out.1
  obtain ⟨⟨y0,y1,y2⟩,y3,y4,y5⟩ := box3 HXN.out.2.1
  go_wp2_with fail
  obtain ⟨hZ,hI,hF⟩ := st_store HXN.out.2.1 p tx q n c
  generalize ((w4.setCell ⟨w.heap.size + 2,0,none⟩ (.pointer p)).setCell ⟨w.heap.size + 2,1,none⟩ (.int .i64 tx)).setCell ⟨w.heap.size + 2,2,none⟩ (.slice q n c) = w9 at *
  obtain ⟨⟨z0,z1,z2⟩,_⟩ := box3 hZ
  (try simp only [Exit.inBlock,Exit.then])
  refine bodyPost_ret (v := .tuple #[.agg #[.pointer p,.int .i64 tx,.slice q n c],.int .i64 110]) (by simp [results,Tryz.results60,go_sem,z0,z1,z2]) rfl ?_
  have hi9 := HIN.out.trans hI
  have hE:wriE r txn ⟨vn,vg,vr⟩ sn = 110 := by unfold wriE; rw [hth]; rfl
  rw [hE,wriO_no hE (by decide)]
  exact ⟨⟨_,rfl,HST.out w9 hi9⟩,HBN.out.trans (hF.below HBN.out.size (fun k hk => by rw [hk]; omega))⟩
 | true =>
  have hNT:¬ (thr r = false) := by rw [hth]; decide
  have g4s:Hid (w.heap.size + 3 ≤ w4.heap.size) := h4s
  have Ab:Below w4.heap.size w4 (w4.alloc (.cells #[.int .i64 txn,.slice none 0 0] 75)) := (Below.refl _ _).alloc (Nat.le_refl _) _
  have HAX:Hid (Box (w4.alloc (.cells #[.int .i64 txn,.slice none 0 0] 75)) w.heap.size #[.pointer p,.int .i64 tx,.slice q n c] 125 ∧ Box (w4.alloc (.cells #[.int .i64 txn,.slice none 0 0] 75)) (w.heap.size + 2) #[.pointer none,.int .i64 0,.slice none 0 0] 125 ∧ Box (w4.alloc (.cells #[.int .i64 txn,.slice none 0 0] 75)) (w.heap.size + 1) #[.int .i64 vn,.bool vg,.slice qv vl cv] 38 ∧ Box (w4.alloc (.cells #[.int .i64 txn,.slice none 0 0] 75)) w4.heap.size #[.int .i64 txn,.slice none 0 0] 75 ∧ w4.heap.size < (w4.alloc (.cells #[.int .i64 txn,.slice none 0 0] 75)).heap.size) := ⟨HXN.out.1.on Ab,HXN.out.2.1.on Ab,HXN.out.2.2.on Ab,Box.new _ _ _,lt_of_block (Box.new w4 #[.int .i64 txn,.slice none 0 0] 75)⟩
  have HAB:Hid (Below w.heap.size w (w4.alloc (.cells #[.int .i64 txn,.slice none 0 0] 75))) := HBN.out.trans (Ab.mono HBN.out.size)
  obtain ⟨⟨Ax0,Ax1,Ax2⟩,Ax3,Ax4,Ax5⟩ := box3 HAX.out.1
  obtain ⟨⟨Ay0,Ay1,Ay2⟩,Ay3,Ay4,Ay5⟩ := box3 HAX.out.2.1
  obtain ⟨⟨As0,As1,As2⟩,As3,As4,As5⟩ := box3 HAX.out.2.2.1
  obtain ⟨At0,At1,At2,At3⟩ := box2 HAX.out.2.2.2.1
  by_cases heq:tx = txn
  ·subst heq
   have Db:Below w4.heap.size w4 (w4.alloc (.cells #[.int .i64 tx,.slice q n c] 75)) := (Below.refl _ _).alloc (Nat.le_refl _) _
   have HDX:Hid (Box (w4.alloc (.cells #[.int .i64 tx,.slice q n c] 75)) w.heap.size #[.pointer p,.int .i64 tx,.slice q n c] 125 ∧ Box (w4.alloc (.cells #[.int .i64 tx,.slice q n c] 75)) (w.heap.size + 2) #[.pointer none,.int .i64 0,.slice none 0 0] 125 ∧ Box (w4.alloc (.cells #[.int .i64 tx,.slice q n c] 75)) (w.heap.size + 1) #[.int .i64 vn,.bool vg,.slice qv vl cv] 38 ∧ Box (w4.alloc (.cells #[.int .i64 tx,.slice q n c] 75)) w4.heap.size #[.int .i64 tx,.slice q n c] 75 ∧ w4.heap.size < (w4.alloc (.cells #[.int .i64 tx,.slice q n c] 75)).heap.size) := ⟨HXN.out.1.on Db,HXN.out.2.1.on Db,HXN.out.2.2.on Db,Box.new _ _ _,lt_of_block (Box.new w4 #[.int .i64 tx,.slice q n c] 75)⟩
   have HDB:Hid (Below w.heap.size w (w4.alloc (.cells #[.int .i64 tx,.slice q n c] 75))) := HBN.out.trans (Db.mono HBN.out.size)
   obtain ⟨⟨Dx0,Dx1,Dx2⟩,Dx3,Dx4,Dx5⟩ := box3 HDX.out.1
   obtain ⟨⟨Dy0,Dy1,Dy2⟩,Dy3,Dy4,Dy5⟩ := box3 HDX.out.2.1
   obtain ⟨⟨Ds0,Ds1,Ds2⟩,Ds3,Ds4,Ds5⟩ := box3 HDX.out.2.2.1
   obtain ⟨Dt0,Dt1,Dt2,Dt3⟩ := box2 HDX.out.2.2.2.1
   clear HXN HBN HIN
   go_wp2_with fail
   generalize (w4.alloc (.cells #[.int .i64 tx,.slice q n c] 75)) = w5 at *
   refine (C3.out _ (Imm.of_below HDB.out)).mono ?_
   rintro e w6 ⟨⟨v6,Z6,rfl,hZ6,hO6⟩,hb6⟩
   obtain ⟨q6,c6,rfl,hr6,hn6⟩ := hO6.st hZ6
   have HXN:Hid (stB w6 w.heap.size p tx q n c ∧ stB w6 (w.heap.size + 2) none 0 none 0 0 ∧ Box w6 w4.heap.size #[.int .i64 tx,.slice q n c] 75) := ⟨HDX.out.1.on hb6,HDX.out.2.1.on hb6,HDX.out.2.2.2.1.on hb6⟩
   have HBN:Hid (Below w.heap.size w w6) := HDB.out.trans (hb6.mono HDB.out.size)
   have HR6:Hid (RdR .i64 w6 w6.heap.size q6 (putL tx r.W ⟨vn,vg,vr⟩) ∧ (q6 = none → c6 = 0)) := ⟨hr6,hn6⟩
   have HWr:Hid (wrW r tx = r.W) := by
    show _ = _
    unfold wrW
    rw [if_pos HTX.out]
   clear hZ6 hO6 hb6 hr6 hn6 Ax0 Ax1 Ax2 Ax3 Ax4 Ax5 Ay0 Ay1 Ay2 Ay3 Ay4 Ay5 As0 As1 As2 As3 As4 As5 At0 At1 At2 At3 Ab Dx0 Dx1 Dx2 Dx3 Dx4 Dx5 Dy0 Dy1 Dy2 Dy3 Dy4 Dy5 Ds0 Ds1 Ds2 Ds3 Ds4 Ds5 Dt0 Dt1 Dt2 Dt3 Db C1 C3 C4
   obtain ⟨e0,e1,e2,e3⟩ := box2 HXN.out.2.2
   cases hpb:putB tx r.W ⟨vn,vg,vr⟩ with
   | true =>
    obtain ⟨p1,p2,p3⟩ := put_bad hpb
    rw [p1,p2,p3]
    simp only [List.length_nil]
    obtain ⟨hT,hIT,hFT⟩ := in_store HXN.out.2.2 0 q6 0 c6
    have k1 := HXN.out.1.frm hFT (show ¬ w.heap.size = w4.heap.size by omega)
    have k2 := HXN.out.2.1.frm hFT (show ¬ w.heap.size + 2 = w4.heap.size by omega)
    have hb7 := HBN.out.trans (hFT.below HBN.out.size (fun k hk => by rw [hk]; omega))
    have hi7 := (Imm.of_below HBN.out).trans hIT
    have hr7 := HR6.out.1.imm hIT
    have HK:Hid (stB ((w6.setCell ⟨w4.heap.size,0,none⟩ (.int .i64 0)).setCell ⟨w4.heap.size,1,none⟩ (.slice q6 0 c6)) w.heap.size p tx q n c ∧ stB ((w6.setCell ⟨w4.heap.size,0,none⟩ (.int .i64 0)).setCell ⟨w4.heap.size,1,none⟩ (.slice q6 0 c6)) (w.heap.size + 2) none 0 none 0 0 ∧ Box ((w6.setCell ⟨w4.heap.size,0,none⟩ (.int .i64 0)).setCell ⟨w4.heap.size,1,none⟩ (.slice q6 0 c6)) w4.heap.size #[.int .i64 0,.slice q6 0 c6] 75 ∧ Below w.heap.size w ((w6.setCell ⟨w4.heap.size,0,none⟩ (.int .i64 0)).setCell ⟨w4.heap.size,1,none⟩ (.slice q6 0 c6)) ∧ Imm w ((w6.setCell ⟨w4.heap.size,0,none⟩ (.int .i64 0)).setCell ⟨w4.heap.size,1,none⟩ (.slice q6 0 c6)) ∧ RdR .i64 ((w6.setCell ⟨w4.heap.size,0,none⟩ (.int .i64 0)).setCell ⟨w4.heap.size,1,none⟩ (.slice q6 0 c6)) ((w6.setCell ⟨w4.heap.size,0,none⟩ (.int .i64 0)).setCell ⟨w4.heap.size,1,none⟩ (.slice q6 0 c6)).heap.size q6 (putL tx r.W ⟨vn,vg,vr⟩)) := ⟨k1,k2,hT,hb7,hi7,hr7⟩
    clear hT k1 k2 hIT hFT hb7 hi7 hr7
    go_upto_region 7 with fail
    generalize ((w6.setCell ⟨w4.heap.size,0,none⟩ (.int .i64 0)).setCell ⟨w4.heap.size,1,none⟩ (.slice q6 0 c6)) = w7 at *
    clear HXN HBN e0 e1 e2 e3
    obtain ⟨⟨x0,x1,x2⟩,x3,x4,x5⟩ := box3 HK.out.1
    obtain ⟨⟨y0,y1,y2⟩,y3,y4,y5⟩ := box3 HK.out.2.1
    obtain ⟨i0,i1,i2,i3⟩ := box2 HK.out.2.2.1
    go_wp2_with fail
    obtain ⟨hZ,hI,hF⟩ := st_store HK.out.2.1 p tx q n c
    generalize ((w7.setCell ⟨w.heap.size + 2,0,none⟩ (.pointer p)).setCell ⟨w.heap.size + 2,1,none⟩ (.int .i64 tx)).setCell ⟨w.heap.size + 2,2,none⟩ (.slice q n c) = w9 at *
    obtain ⟨⟨z0,z1,z2⟩,_⟩ := box3 hZ
    (try simp only [Exit.inBlock,Exit.then])
    refine bodyPost_ret (v := .tuple #[.agg #[.pointer p,.int .i64 tx,.slice q n c],.int .i64 1]) (by simp [results,Tryz.results60,go_sem,z0,z1,z2]) rfl ?_
    have hi9 := HK.out.2.2.2.2.1.trans hI
    have hE:wriE r tx ⟨vn,vg,vr⟩ sn = 1 := by unfold wriE; rw [if_neg hNT,HWr.out,hpb]; rfl
    rw [hE,wriO_no hE (by decide)]
    exact ⟨⟨_,rfl,HST.out w9 hi9⟩,HK.out.2.2.2.1.trans (hF.below HK.out.2.2.2.1.size (fun k hk => by rw [hk]; omega))⟩
   | false =>
    obtain ⟨p1,p2,p3⟩ := put_ok hpb
    have hT1:1 ≤ tx := by
     simp only [putB,Bool.or_eq_false_iff,decide_eq_false_iff_not] at hpb
     omega
    rw [p1,p2]
    obtain ⟨pl,hpl⟩:∃ x,(putL tx r.W ⟨vn,vg,vr⟩).length = x := ⟨_,rfl⟩
    rw [hpl]
    obtain ⟨hT,hIT,hFT⟩ := in_store HXN.out.2.2 tx q6 pl c6
    have k1 := HXN.out.1.frm hFT (show ¬ w.heap.size = w4.heap.size by omega)
    have k2 := HXN.out.2.1.frm hFT (show ¬ w.heap.size + 2 = w4.heap.size by omega)
    have hb7 := HBN.out.trans (hFT.below HBN.out.size (fun k hk => by rw [hk]; omega))
    have hi7 := (Imm.of_below HBN.out).trans hIT
    have hr7 := HR6.out.1.imm hIT
    have HK:Hid (stB ((w6.setCell ⟨w4.heap.size,0,none⟩ (.int .i64 tx)).setCell ⟨w4.heap.size,1,none⟩ (.slice q6 pl c6)) w.heap.size p tx q n c ∧ stB ((w6.setCell ⟨w4.heap.size,0,none⟩ (.int .i64 tx)).setCell ⟨w4.heap.size,1,none⟩ (.slice q6 pl c6)) (w.heap.size + 2) none 0 none 0 0 ∧ Box ((w6.setCell ⟨w4.heap.size,0,none⟩ (.int .i64 tx)).setCell ⟨w4.heap.size,1,none⟩ (.slice q6 pl c6)) w4.heap.size #[.int .i64 tx,.slice q6 pl c6] 75 ∧ Below w.heap.size w ((w6.setCell ⟨w4.heap.size,0,none⟩ (.int .i64 tx)).setCell ⟨w4.heap.size,1,none⟩ (.slice q6 pl c6)) ∧ Imm w ((w6.setCell ⟨w4.heap.size,0,none⟩ (.int .i64 tx)).setCell ⟨w4.heap.size,1,none⟩ (.slice q6 pl c6)) ∧ RdR .i64 ((w6.setCell ⟨w4.heap.size,0,none⟩ (.int .i64 tx)).setCell ⟨w4.heap.size,1,none⟩ (.slice q6 pl c6)) ((w6.setCell ⟨w4.heap.size,0,none⟩ (.int .i64 tx)).setCell ⟨w4.heap.size,1,none⟩ (.slice q6 pl c6)).heap.size q6 (putL tx r.W ⟨vn,vg,vr⟩)) := ⟨k1,k2,hT,hb7,hi7,hr7⟩
    clear hT k1 k2 hIT hFT hb7 hi7 hr7
    go_upto_region 7 with fail
    generalize ((w6.setCell ⟨w4.heap.size,0,none⟩ (.int .i64 tx)).setCell ⟨w4.heap.size,1,none⟩ (.slice q6 pl c6)) = w7 at *
    clear HXN HBN e0 e1 e2 e3
    obtain ⟨⟨x0,x1,x2⟩,x3,x4,x5⟩ := box3 HK.out.1
    obtain ⟨⟨y0,y1,y2⟩,y3,y4,y5⟩ := box3 HK.out.2.1
    obtain ⟨i0,i1,i2,i3⟩ := box2 HK.out.2.2.1
    have h0:(tx == 0) = false := beq_eq_false_iff_ne.2 (by omega)
    obtain ⟨hU,hIU,hFU⟩ := st_int HK.out.1 tx q6 pl c6
    have k3 := HK.out.2.1.frm hFU (show ¬ w.heap.size + 2 = w.heap.size by omega)
    have hb8 := HK.out.2.2.2.1.trans (hFU.below HK.out.2.2.2.1.size (fun k hk => by rw [hk]; exact Nat.le_refl _))
    have HK8:Hid (stB ((w7.setCell ⟨w.heap.size,1,none⟩ (.int .i64 tx)).setCell ⟨w.heap.size,2,none⟩ (.slice q6 pl c6)) w.heap.size p tx q6 pl c6 ∧ stB ((w7.setCell ⟨w.heap.size,1,none⟩ (.int .i64 tx)).setCell ⟨w.heap.size,2,none⟩ (.slice q6 pl c6)) (w.heap.size + 2) none 0 none 0 0 ∧ Below w.heap.size w ((w7.setCell ⟨w.heap.size,1,none⟩ (.int .i64 tx)).setCell ⟨w.heap.size,2,none⟩ (.slice q6 pl c6)) ∧ Imm w ((w7.setCell ⟨w.heap.size,1,none⟩ (.int .i64 tx)).setCell ⟨w.heap.size,2,none⟩ (.slice q6 pl c6)) ∧ RdR .i64 ((w7.setCell ⟨w.heap.size,1,none⟩ (.int .i64 tx)).setCell ⟨w.heap.size,2,none⟩ (.slice q6 pl c6)) ((w7.setCell ⟨w.heap.size,1,none⟩ (.int .i64 tx)).setCell ⟨w.heap.size,2,none⟩ (.slice q6 pl c6)).heap.size q6 (putL tx r.W ⟨vn,vg,vr⟩)) := ⟨hU,k3,hb8,HK.out.2.2.2.2.1.trans hIU,HK.out.2.2.2.2.2.imm hIU⟩
    clear hU hIU hFU k3 hb8
    go_upto_region 14 with fail
    generalize ((w7.setCell ⟨w.heap.size,1,none⟩ (.int .i64 tx)).setCell ⟨w.heap.size,2,none⟩ (.slice q6 pl c6)) = w8 at *
    clear x0 x1 x2 x3 x4 x5 y0 y1 y2 y3 y4 y5 i0 i1 i2 i3
    obtain ⟨⟨x0,x1,x2⟩,x3,x4,x5⟩ := box3 HK8.out.1
    obtain ⟨⟨y0,y1,y2⟩,y3,y4,y5⟩ := box3 HK8.out.2.1
    go_wp2_with fail
    obtain ⟨hZ,hI,hF⟩ := st_store HK8.out.2.1 p tx q6 pl c6
    generalize ((w8.setCell ⟨w.heap.size + 2,0,none⟩ (.pointer p)).setCell ⟨w.heap.size + 2,1,none⟩ (.int .i64 tx)).setCell ⟨w.heap.size + 2,2,none⟩ (.slice q6 pl c6) = w9 at *
    obtain ⟨⟨z0,z1,z2⟩,_⟩ := box3 hZ
    (try simp only [Exit.inBlock,Exit.then])
    refine bodyPost_ret (v := .tuple #[.agg #[.pointer p,.int .i64 tx,.slice q6 pl c6],.int .i64 0]) (by simp [results,Tryz.results60,go_sem,z0,z1,z2]) rfl ?_
    have hE:wriE r tx ⟨vn,vg,vr⟩ sn = 0 := by unfold wriE; rw [if_neg hNT,HWr.out,hpb,HTX.out,if_neg (by simp),if_neg (by simp),if_neg (by omega)]
    rw [hE,wriO_ok hE]
    exact ⟨⟨_,rfl,p,q6,c6,by simp only [stV,wriR,HWr.out,hpl],HPst.out w9 (HK8.out.2.2.2.1.trans hI),by show RdR _ _ _ _ (putL _ (wrW r _) _); rw [HWr.out]; exact HK8.out.2.2.2.2.imm hI,HR6.out.2⟩,HK8.out.2.2.1.trans (hF.below HK8.out.2.2.1.size (fun k hk => by rw [hk]; omega))⟩
  ·have heq':(tx == txn) = false := beq_eq_false_iff_ne.2 heq
   clear HXN HBN HIN
   go_wp2_with fail
   generalize (w4.alloc (.cells #[.int .i64 txn,.slice none 0 0] 75)) = w5 at *
   refine (C4.out _ (Imm.of_below HAB.out)).mono ?_
   rintro e w6 ⟨⟨v6,Z6,rfl,hZ6,hO6⟩,hb6⟩
   obtain ⟨q6,c6,rfl,hr6,hn6⟩ := hO6.st hZ6
   have HXN:Hid (stB w6 w.heap.size p tx q n c ∧ stB w6 (w.heap.size + 2) none 0 none 0 0 ∧ Box w6 w4.heap.size #[.int .i64 txn,.slice none 0 0] 75) := ⟨HAX.out.1.on hb6,HAX.out.2.1.on hb6,HAX.out.2.2.2.1.on hb6⟩
   have HBN:Hid (Below w.heap.size w w6) := HAB.out.trans (hb6.mono HAB.out.size)
   have HR6:Hid (RdR .i64 w6 w6.heap.size q6 (putL txn ([]:List Rw) ⟨vn,vg,vr⟩) ∧ (q6 = none → c6 = 0)) := ⟨hr6,hn6⟩
   have HWr:Hid (wrW r txn = ([]:List Rw)) := by
    show _ = _
    unfold wrW
    rw [if_neg (by rw [HTX.out]; exact heq)]
   clear hZ6 hO6 hb6 hr6 hn6 Ax0 Ax1 Ax2 Ax3 Ax4 Ax5 Ay0 Ay1 Ay2 Ay3 Ay4 Ay5 As0 As1 As2 As3 As4 As5 At0 At1 At2 At3 Ab C1 C3 C4
   obtain ⟨e0,e1,e2,e3⟩ := box2 HXN.out.2.2
   cases hpb:putB txn ([]:List Rw) ⟨vn,vg,vr⟩ with
   | true =>
    obtain ⟨p1,p2,p3⟩ := put_bad hpb
    rw [p1,p2,p3]
    simp only [List.length_nil]
    obtain ⟨hT,hIT,hFT⟩ := in_store HXN.out.2.2 0 q6 0 c6
    have k1 := HXN.out.1.frm hFT (show ¬ w.heap.size = w4.heap.size by omega)
    have k2 := HXN.out.2.1.frm hFT (show ¬ w.heap.size + 2 = w4.heap.size by omega)
    have hb7 := HBN.out.trans (hFT.below HBN.out.size (fun k hk => by rw [hk]; omega))
    have hi7 := (Imm.of_below HBN.out).trans hIT
    have hr7 := HR6.out.1.imm hIT
    have HK:Hid (stB ((w6.setCell ⟨w4.heap.size,0,none⟩ (.int .i64 0)).setCell ⟨w4.heap.size,1,none⟩ (.slice q6 0 c6)) w.heap.size p tx q n c ∧ stB ((w6.setCell ⟨w4.heap.size,0,none⟩ (.int .i64 0)).setCell ⟨w4.heap.size,1,none⟩ (.slice q6 0 c6)) (w.heap.size + 2) none 0 none 0 0 ∧ Box ((w6.setCell ⟨w4.heap.size,0,none⟩ (.int .i64 0)).setCell ⟨w4.heap.size,1,none⟩ (.slice q6 0 c6)) w4.heap.size #[.int .i64 0,.slice q6 0 c6] 75 ∧ Below w.heap.size w ((w6.setCell ⟨w4.heap.size,0,none⟩ (.int .i64 0)).setCell ⟨w4.heap.size,1,none⟩ (.slice q6 0 c6)) ∧ Imm w ((w6.setCell ⟨w4.heap.size,0,none⟩ (.int .i64 0)).setCell ⟨w4.heap.size,1,none⟩ (.slice q6 0 c6)) ∧ RdR .i64 ((w6.setCell ⟨w4.heap.size,0,none⟩ (.int .i64 0)).setCell ⟨w4.heap.size,1,none⟩ (.slice q6 0 c6)) ((w6.setCell ⟨w4.heap.size,0,none⟩ (.int .i64 0)).setCell ⟨w4.heap.size,1,none⟩ (.slice q6 0 c6)).heap.size q6 (putL txn ([]:List Rw) ⟨vn,vg,vr⟩)) := ⟨k1,k2,hT,hb7,hi7,hr7⟩
    clear hT k1 k2 hIT hFT hb7 hi7 hr7
    go_upto_region 7 with fail
    generalize ((w6.setCell ⟨w4.heap.size,0,none⟩ (.int .i64 0)).setCell ⟨w4.heap.size,1,none⟩ (.slice q6 0 c6)) = w7 at *
    clear HXN HBN e0 e1 e2 e3
    obtain ⟨⟨x0,x1,x2⟩,x3,x4,x5⟩ := box3 HK.out.1
    obtain ⟨⟨y0,y1,y2⟩,y3,y4,y5⟩ := box3 HK.out.2.1
    obtain ⟨i0,i1,i2,i3⟩ := box2 HK.out.2.2.1
    go_wp2_with fail
    obtain ⟨hZ,hI,hF⟩ := st_store HK.out.2.1 p tx q n c
    generalize ((w7.setCell ⟨w.heap.size + 2,0,none⟩ (.pointer p)).setCell ⟨w.heap.size + 2,1,none⟩ (.int .i64 tx)).setCell ⟨w.heap.size + 2,2,none⟩ (.slice q n c) = w9 at *
    obtain ⟨⟨z0,z1,z2⟩,_⟩ := box3 hZ
    (try simp only [Exit.inBlock,Exit.then])
    refine bodyPost_ret (v := .tuple #[.agg #[.pointer p,.int .i64 tx,.slice q n c],.int .i64 1]) (by simp [results,Tryz.results60,go_sem,z0,z1,z2]) rfl ?_
    have hi9 := HK.out.2.2.2.2.1.trans hI
    have hE:wriE r txn ⟨vn,vg,vr⟩ sn = 1 := by unfold wriE; rw [if_neg hNT,HWr.out,hpb]; rfl
    rw [hE,wriO_no hE (by decide)]
    exact ⟨⟨_,rfl,HST.out w9 hi9⟩,HK.out.2.2.2.1.trans (hF.below HK.out.2.2.2.1.size (fun k hk => by rw [hk]; omega))⟩
   | false =>
    obtain ⟨p1,p2,p3⟩ := put_ok hpb
    have hT1:1 ≤ txn := by
     simp only [putB,Bool.or_eq_false_iff,decide_eq_false_iff_not] at hpb
     omega
    rw [p1,p2]
    obtain ⟨pl,hpl⟩:∃ x,(putL txn ([]:List Rw) ⟨vn,vg,vr⟩).length = x := ⟨_,rfl⟩
    rw [hpl]
    obtain ⟨hT,hIT,hFT⟩ := in_store HXN.out.2.2 txn q6 pl c6
    have k1 := HXN.out.1.frm hFT (show ¬ w.heap.size = w4.heap.size by omega)
    have k2 := HXN.out.2.1.frm hFT (show ¬ w.heap.size + 2 = w4.heap.size by omega)
    have hb7 := HBN.out.trans (hFT.below HBN.out.size (fun k hk => by rw [hk]; omega))
    have hi7 := (Imm.of_below HBN.out).trans hIT
    have hr7 := HR6.out.1.imm hIT
    have HK:Hid (stB ((w6.setCell ⟨w4.heap.size,0,none⟩ (.int .i64 txn)).setCell ⟨w4.heap.size,1,none⟩ (.slice q6 pl c6)) w.heap.size p tx q n c ∧ stB ((w6.setCell ⟨w4.heap.size,0,none⟩ (.int .i64 txn)).setCell ⟨w4.heap.size,1,none⟩ (.slice q6 pl c6)) (w.heap.size + 2) none 0 none 0 0 ∧ Box ((w6.setCell ⟨w4.heap.size,0,none⟩ (.int .i64 txn)).setCell ⟨w4.heap.size,1,none⟩ (.slice q6 pl c6)) w4.heap.size #[.int .i64 txn,.slice q6 pl c6] 75 ∧ Below w.heap.size w ((w6.setCell ⟨w4.heap.size,0,none⟩ (.int .i64 txn)).setCell ⟨w4.heap.size,1,none⟩ (.slice q6 pl c6)) ∧ Imm w ((w6.setCell ⟨w4.heap.size,0,none⟩ (.int .i64 txn)).setCell ⟨w4.heap.size,1,none⟩ (.slice q6 pl c6)) ∧ RdR .i64 ((w6.setCell ⟨w4.heap.size,0,none⟩ (.int .i64 txn)).setCell ⟨w4.heap.size,1,none⟩ (.slice q6 pl c6)) ((w6.setCell ⟨w4.heap.size,0,none⟩ (.int .i64 txn)).setCell ⟨w4.heap.size,1,none⟩ (.slice q6 pl c6)).heap.size q6 (putL txn ([]:List Rw) ⟨vn,vg,vr⟩)) := ⟨k1,k2,hT,hb7,hi7,hr7⟩
    clear hT k1 k2 hIT hFT hb7 hi7 hr7
    go_upto_region 7 with fail
    generalize ((w6.setCell ⟨w4.heap.size,0,none⟩ (.int .i64 txn)).setCell ⟨w4.heap.size,1,none⟩ (.slice q6 pl c6)) = w7 at *
    clear HXN HBN e0 e1 e2 e3
    obtain ⟨⟨x0,x1,x2⟩,x3,x4,x5⟩ := box3 HK.out.1
    obtain ⟨⟨y0,y1,y2⟩,y3,y4,y5⟩ := box3 HK.out.2.1
    obtain ⟨i0,i1,i2,i3⟩ := box2 HK.out.2.2.1
    by_cases hz:tx = 0
    ·subst hz
     have hne:((0:Int) == txn) = false := beq_eq_false_iff_ne.2 heq
     go_wp2_with fail
     refine (C2.out _ HK.out.2.2.2.2.1).mono ?_
     rintro e wn ⟨rfl,hbn⟩
     have HL:Hid (stB wn w.heap.size p 0 q n c ∧ stB wn (w.heap.size + 2) none 0 none 0 0 ∧ Box wn w4.heap.size #[.int .i64 txn,.slice q6 pl c6] 75 ∧ Below w.heap.size w wn ∧ Imm w wn ∧ RdR .i64 wn wn.heap.size q6 (putL txn ([]:List Rw) ⟨vn,vg,vr⟩)) := ⟨HK.out.1.on hbn,HK.out.2.1.on hbn,HK.out.2.2.1.on hbn,HK.out.2.2.2.1.trans (hbn.mono HK.out.2.2.2.1.size),HK.out.2.2.2.2.1.trans (Imm.of_below hbn),HK.out.2.2.2.2.2.imm (Imm.of_below hbn)⟩
     clear HK C2 hbn x0 x1 x2 x3 x4 x5 y0 y1 y2 y3 y4 y5 i0 i1 i2 i3
     obtain ⟨⟨x0,x1,x2⟩,x3,x4,x5⟩ := box3 HL.out.1
     obtain ⟨⟨y0,y1,y2⟩,y3,y4,y5⟩ := box3 HL.out.2.1
     obtain ⟨i0,i1,i2,i3⟩ := box2 HL.out.2.2.1
     cases hnw:newr r sn with
     | true =>
      go_wp2_with fail
      obtain ⟨hZ,hI,hF⟩ := st_store HL.out.2.1 p 0 q n c
      generalize ((wn.setCell ⟨w.heap.size + 2,0,none⟩ (.pointer p)).setCell ⟨w.heap.size + 2,1,none⟩ (.int .i64 0)).setCell ⟨w.heap.size + 2,2,none⟩ (.slice q n c) = w9 at *
      obtain ⟨⟨z0,z1,z2⟩,_⟩ := box3 hZ
      (try simp only [Exit.inBlock,Exit.then])
      refine bodyPost_ret (v := .tuple #[.agg #[.pointer p,.int .i64 0,.slice q n c],.int .i64 112]) (by simp [results,Tryz.results60,go_sem,z0,z1,z2]) rfl ?_
      have hi9 := HL.out.2.2.2.2.1.trans hI
      have hE:wriE r txn ⟨vn,vg,vr⟩ sn = 112 := by unfold wriE; rw [if_neg hNT,HWr.out,hpb,HTX.out,if_neg (by simp),if_neg (by simp),if_pos ⟨rfl,hnw⟩]
      rw [hE,wriO_no hE (by decide)]
      exact ⟨⟨_,rfl,HST.out w9 hi9⟩,HL.out.2.2.2.1.trans (hF.below HL.out.2.2.2.1.size (fun k hk => by rw [hk]; omega))⟩
     | false =>
      obtain ⟨hU,hIU,hFU⟩ := st_int HL.out.1 txn q6 pl c6
      have k3 := HL.out.2.1.frm hFU (show ¬ w.heap.size + 2 = w.heap.size by omega)
      have hb8 := HL.out.2.2.2.1.trans (hFU.below HL.out.2.2.2.1.size (fun k hk => by rw [hk]; exact Nat.le_refl _))
      have HK8:Hid (stB ((wn.setCell ⟨w.heap.size,1,none⟩ (.int .i64 txn)).setCell ⟨w.heap.size,2,none⟩ (.slice q6 pl c6)) w.heap.size p txn q6 pl c6 ∧ stB ((wn.setCell ⟨w.heap.size,1,none⟩ (.int .i64 txn)).setCell ⟨w.heap.size,2,none⟩ (.slice q6 pl c6)) (w.heap.size + 2) none 0 none 0 0 ∧ Below w.heap.size w ((wn.setCell ⟨w.heap.size,1,none⟩ (.int .i64 txn)).setCell ⟨w.heap.size,2,none⟩ (.slice q6 pl c6)) ∧ Imm w ((wn.setCell ⟨w.heap.size,1,none⟩ (.int .i64 txn)).setCell ⟨w.heap.size,2,none⟩ (.slice q6 pl c6)) ∧ RdR .i64 ((wn.setCell ⟨w.heap.size,1,none⟩ (.int .i64 txn)).setCell ⟨w.heap.size,2,none⟩ (.slice q6 pl c6)) ((wn.setCell ⟨w.heap.size,1,none⟩ (.int .i64 txn)).setCell ⟨w.heap.size,2,none⟩ (.slice q6 pl c6)).heap.size q6 (putL txn ([]:List Rw) ⟨vn,vg,vr⟩)) := ⟨hU,k3,hb8,HL.out.2.2.2.2.1.trans hIU,HL.out.2.2.2.2.2.imm hIU⟩
      clear hU hIU hFU k3 hb8
      go_upto_region 14 with fail
      generalize ((wn.setCell ⟨w.heap.size,1,none⟩ (.int .i64 txn)).setCell ⟨w.heap.size,2,none⟩ (.slice q6 pl c6)) = w8 at *
      clear x0 x1 x2 x3 x4 x5 y0 y1 y2 y3 y4 y5 i0 i1 i2 i3
      obtain ⟨⟨x0,x1,x2⟩,x3,x4,x5⟩ := box3 HK8.out.1
      obtain ⟨⟨y0,y1,y2⟩,y3,y4,y5⟩ := box3 HK8.out.2.1
      go_wp2_with fail
      obtain ⟨hZ,hI,hF⟩ := st_store HK8.out.2.1 p txn q6 pl c6
      generalize ((w8.setCell ⟨w.heap.size + 2,0,none⟩ (.pointer p)).setCell ⟨w.heap.size + 2,1,none⟩ (.int .i64 txn)).setCell ⟨w.heap.size + 2,2,none⟩ (.slice q6 pl c6) = w9 at *
      obtain ⟨⟨z0,z1,z2⟩,_⟩ := box3 hZ
      (try simp only [Exit.inBlock,Exit.then])
      refine bodyPost_ret (v := .tuple #[.agg #[.pointer p,.int .i64 txn,.slice q6 pl c6],.int .i64 0]) (by simp [results,Tryz.results60,go_sem,z0,z1,z2]) rfl ?_
      have hE:wriE r txn ⟨vn,vg,vr⟩ sn = 0 := by unfold wriE; rw [if_neg hNT,HWr.out,hpb,HTX.out,if_neg (by simp),if_neg (by simp),if_neg (by rw [hnw]; simp)]
      rw [hE,wriO_ok hE]
      exact ⟨⟨_,rfl,p,q6,c6,by simp only [stV,wriR,HWr.out,hpl],HPst.out w9 (HK8.out.2.2.2.1.trans hI),by show RdR _ _ _ _ (putL _ (wrW r _) _); rw [HWr.out]; exact HK8.out.2.2.2.2.imm hI,HR6.out.2⟩,HK8.out.2.2.1.trans (hF.below HK8.out.2.2.1.size (fun k hk => by rw [hk]; omega))⟩
    ·have h0:(tx == 0) = false := beq_eq_false_iff_ne.2 hz
     have h1:(tx != 0) = true := by simp [bne,h0]
     have h2:(tx != txn) = true := by simp [bne,heq']
     go_wp2_with fail
     obtain ⟨hZ,hI,hF⟩ := st_store HK.out.2.1 p tx q n c
     generalize ((w7.setCell ⟨w.heap.size + 2,0,none⟩ (.pointer p)).setCell ⟨w.heap.size + 2,1,none⟩ (.int .i64 tx)).setCell ⟨w.heap.size + 2,2,none⟩ (.slice q n c) = w9 at *
     obtain ⟨⟨z0,z1,z2⟩,_⟩ := box3 hZ
     (try simp only [Exit.inBlock,Exit.then])
     refine bodyPost_ret (v := .tuple #[.agg #[.pointer p,.int .i64 tx,.slice q n c],.int .i64 111]) (by simp [results,Tryz.results60,go_sem,z0,z1,z2]) rfl ?_
     have hi9 := HK.out.2.2.2.2.1.trans hI
     have hE:wriE r txn ⟨vn,vg,vr⟩ sn = 111 := by unfold wriE; rw [if_neg hNT,HWr.out,hpb,HTX.out,if_neg (by simp),if_pos ⟨hz,heq⟩]
     rw [hE,wriO_no hE (by decide)]
     exact ⟨⟨_,rfl,HST.out w9 hi9⟩,HK.out.2.2.2.1.trans (hF.below HK.out.2.2.2.1.size (fun k hk => by rw [hk]; omega))⟩

end Go.Proofs.YtcibcfghkidncaaGreatDoor
