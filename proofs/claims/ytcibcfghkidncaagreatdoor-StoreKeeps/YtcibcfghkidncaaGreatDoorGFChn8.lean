/- What the proofs of this seat share: versions, writes, intents, opened. The walks of ownVersion and ownWrite; boxes. The walks of Prune, on both sides. The walks of Check and May. -/
import Derived.WalkLawsBesides
import Derived.JoinedOf
import Derived.Handed
import Derived.Test.YtcibcfghkidncaaGreatDoorGFOpen
import Derived.Test.YtcibcfghkidncaaGreatDoorGWSam8
import Derived.Test.YtcibcfghkidncaaGreatDoorGWVl
namespace Go.Proofs.YtcibcfghkidncaaGreatDoor
open Go.ChangeShapes Go.WideShapes Go.ChangeAt Go.RowKit Go.Joins Go.Deep
set_option maxRecDepth 100000

theorem own:ownKnob Tryz.prog.godebug = none := by kernel_rfl
theorem laidOut:laidOutB Tryz.prog = true := by kernel_rfl
theorem cellsV:Tryz.prog.cellsOf 70 = 4 := by kernel_rfl
theorem cellsVs:Tryz.prog.cellsOf 36 = 1 := by kernel_rfl
theorem cellsI:Tryz.prog.cellsOf 3 = 1 := by kernel_rfl
theorem cellsS:Tryz.prog.cellsOf 9 = 1 := by kernel_rfl
theorem cellsB:Tryz.prog.cellsOf 4 = 1 := by kernel_rfl
theorem cellsN:Tryz.prog.cellsOf 2 = 1 := by kernel_rfl
theorem cellsU:Tryz.prog.cellsOf 39 = 1 := by kernel_rfl
theorem cellsFl:Tryz.prog.cellsOf 68 = 1 := by kernel_rfl
theorem bytesV:Tryz.prog.bytesOf 70 = 40 := by kernel_rfl
theorem cellsWri:Tryz.prog.cellsOf 38 = 3 := by kernel_rfl

theorem cellsIn:Tryz.prog.cellsOf 75 = 2 := by kernel_rfl

theorem openValue {H:Type} {enc:TypeId × Value → H} {W:World} {fuel:Nat} {cs:List Value} {x:DataW H × List MemPlace} (h:DataW.trod enc Tryz.prog W 0 (fun _ => true) true fuel 70 cs = some x):∃ v:Vl,cs = [.int .i64 v.k,.int .i64 v.n,.float .f64 v.f,.string v.s] := by
 obtain ⟨y0,y1,y2,y3,n,_,hl,h0,h1,h2,h3⟩ := trod_struct4 Tryz.underlying70 h
 rw [cellsV] at hl
 match cs,hl with
 | [c0,c1,c2,c3],_ =>
  obtain ⟨k,e0,_,w0⟩ := DataW.trod_int Tryz.underlying3 h0
  obtain ⟨m,e1,_,w1⟩ := DataW.trod_int Tryz.underlying2 h1
  obtain ⟨f,e2,_,w2⟩ := trod_float Tryz.underlying68 h2
  obtain ⟨s,e3,_,w3⟩ := DataW.trod_string Tryz.underlying9 h3
  simp [cellsI,cellsN,cellsFl,cellsS] at e0 e1 e2 e3
  subst e0 e1 e2 e3
  exact ⟨⟨k,m,f,s⟩,rfl⟩

theorem openRow {H:Type} {enc:TypeId × Value → H} {W:World} {fuel:Nat} {cs:List Value} {x:DataW H × List MemPlace} (h:DataW.trod enc Tryz.prog W 0 (fun _ => true) true fuel 36 cs = some x) (hr:Reach Tryz.prog 36 x.1) :
  ∃ (L:List Vl) (q:Option Addr) (c:Nat),cs = [.slice q L.length c] ∧ RowV W W.heap.size q L ∧ L.length ≤ 3518437208882 ∧ (q = none → c = 0) := by
 obtain ⟨L,q,c,e,hl,hb,hq,he⟩ := openList (⟨0,0,0,⟨#[]⟩⟩:Vl) _ Tryz.underlying36 cellsV (by decide) (fun n cs y h _ => openValue h) h hr
 rw [bytesV] at hb
 simp only [reachBytes] at hb
 refine ⟨L,q,c,e,?_,by omega,hq⟩
 intro i hi
 obtain ⟨b,o,e,hb,cs',hQ,_,hc⟩ := he i hi
 have g0 := hc 0 (by decide)
 have g1 := hc 1 (by decide)
 have g2 := hc 2 (by decide)
 have g3 := hc 3 (by decide)
 rw [hQ] at g0 g1 g2 g3
 exact ⟨b,o,e,hb,g0,g1,g2,g3⟩

def IsRw (k:IntKind) (W:World) (cs:List Value) (r:Rw):Prop := ∃ q c,cs = [.int k r.n,.bool r.gn,.slice q r.row.length c] ∧ RowV W W.heap.size q r.row ∧ r.row.length ≤ 3518437208882 ∧ (q = none → c = 0)
theorem openWri {H:Type} {enc:TypeId × Value → H} {W:World} {fuel:Nat} {cs:List Value} {x:DataW H × List MemPlace} (h:DataW.trod enc Tryz.prog W 0 (fun _ => true) true fuel 38 cs = some x) (hr:Reach Tryz.prog 38 x.1):∃ r:Rw,IsRw .i64 W cs r ∧ (-9223372036854775808 ≤ r.n ∧ r.n ≤ 9223372036854775807) := by
 obtain ⟨y0,y1,y2,n,hx,hl,h0,h1,h2⟩ := trod_struct3 Tryz.underlying38 h
 subst hx
 rw [cellsWri] at hl
 match cs,hl with
 | [c0,c1,c2],_ =>
  obtain ⟨k,e0,_,w0⟩ := DataW.trod_int Tryz.underlying3 h0
  obtain ⟨b,e1,_⟩ := DataW.trod_bool Tryz.underlying4 h1
  obtain ⟨L,q,c,e2,hR,hlen,hq⟩ := openRow h2 (hr.part Tryz.underlying38 (j := 2) (u := 36) (d := y2.1) rfl rfl)
  simp [cellsI,cellsB,cellsVs] at e0 e1 e2
  subst e0 e1 e2
  exact ⟨⟨k,b,L⟩,⟨q,c,rfl,hR,hlen,hq⟩,wf_i64 w0⟩

theorem openInt {H:Type} {enc:TypeId × Value → H} {W:World} {b0:Nat} {v:Value} {d:DataW H} {p:List MemPlace}
  (hv:Value.okWide Tryz.prog W .any b0 3 v) (h:DataW.Trod enc Tryz.prog W 0 (fun _ => true) true 3 v d p):∃ a:Int,v = .int .i64 a ∧ (-9223372036854775808 ≤ a ∧ a ≤ 9223372036854775807) := by
 obtain ⟨a,rfl⟩ := okWide_int Tryz.underlying3 hv
 obtain ⟨fuel,hf⟩ := h
 obtain ⟨k,e,_,w0⟩ := DataW.trod_int Tryz.underlying3 hf
 simp [Value.cells] at e
 subst e
 exact ⟨a,rfl,wf_i64 w0⟩

theorem openU64 {H:Type} {enc:TypeId × Value → H} {W:World} {b0:Nat} {v:Value} {d:DataW H} {p:List MemPlace}
  (hv:Value.okWide Tryz.prog W .any b0 39 v) (h:DataW.Trod enc Tryz.prog W 0 (fun _ => true) true 39 v d p):∃ a:Int,v = .int .u64 a ∧ (0 ≤ a ∧ a ≤ 18446744073709551615) := by
 obtain ⟨a,rfl⟩ := okWide_int Tryz.underlying39 hv
 obtain ⟨fuel,hf⟩ := h
 obtain ⟨k,e,_,w0⟩ := DataW.trod_int Tryz.underlying39 hf
 simp [Value.cells] at e
 subst e
 simp only [Lit.wf,Bool.and_eq_true,decide_eq_true_eq] at w0
 exact ⟨a,rfl,w0⟩

end Go.Proofs.YtcibcfghkidncaaGreatDoor

namespace Go.Proofs.YtcibcfghkidncaaGreatDoor
open Go.RowKit
set_option maxRecDepth 100000

def Box (w:World) (g:Nat) (vs:Array Value) (T:TypeId):Prop := w.heap[g]? = some (.cells vs T (0,0))
theorem Box.new (w:World) (vs:Array Value) (T:TypeId):Box (w.alloc (.cells vs T)) w.heap.size vs T := by
 unfold Box World.alloc
 exact Array.getElem?_push_size
theorem Box.lt {w:World} {g:Nat} {vs:Array Value} {T:TypeId} (h:Box w g vs T):g < w.heap.size := (Array.getElem?_eq_some_iff.1 h).1
theorem Box.keep {w w':World} {B g:Nat} {vs:Array Value} {T:TypeId} (h:Box w g vs T) (hb:Below B w w') (hg:g < B):Box w' g vs T := (hb.block g hg).trans h
theorem Box.on {w w':World} {g:Nat} {vs:Array Value} {T:TypeId} (h:Box w g vs T) (hb:Below w.heap.size w w'):Box w' g vs T := h.keep hb h.lt
theorem Box.set {w:World} {g i:Nat} {vs:Array Value} {T:TypeId} (h:Box w g vs T) (x:Value):Box (w.setCell ⟨g,i,none⟩ x) g (vs.setIfInBounds i x) T := heap_setCell_same w g i vs T x h
theorem Box.off {w:World} {g j i:Nat} {vs:Array Value} {T:TypeId} (h:Box w g vs T) (x:Value) (hj:g ≠ j):Box (w.setCell ⟨j,i,none⟩ x) g vs T := (heap_setCell_other w _ g x hj).trans h
theorem OwnV.off {w:World} {B j i:Nat} {v:Value} {L:List Vl} (h:OwnV w B v L) (x:Value) (hj:j < B):OwnV (w.setCell ⟨j,i,none⟩ x) B v L := by
 refine ⟨h.1,?_⟩
 rcases h.2 with h1 | ⟨g,cap,cur,e,hb',hg,r⟩
 ·exact .inl h1
 ·exact .inr ⟨g,cap,cur,e,hb',(heap_setCell_other w _ g x (by show g ≠ j; omega)).trans hg,r⟩
theorem box2 {w:World} {g:Nat} {a b:Value} {T:TypeId} (h:Box w g #[a,b] T):w.cell? ⟨g,0,none⟩ = some a ∧ w.cell? ⟨g,1,none⟩ = some b ∧ w.frozen? ⟨g,0,none⟩ = false ∧ w.frozen? ⟨g,1,none⟩ = false := by
 unfold Box at h
 refine ⟨?_,?_,?_,?_⟩ <;> simp [World.cell?,World.frozen?,h]
theorem box3 {w:World} {g:Nat} {a b c:Value} {T:TypeId} (h:Box w g #[a,b,c] T):(w.cell? ⟨g,0,none⟩ = some a ∧ w.cell? ⟨g,1,none⟩ = some b ∧ w.cell? ⟨g,2,none⟩ = some c) ∧ w.frozen? ⟨g,0,none⟩ = false ∧ w.frozen? ⟨g,1,none⟩ = false ∧ w.frozen? ⟨g,2,none⟩ = false := by
 unfold Box at h
 refine ⟨⟨?_,?_,?_⟩,?_,?_,?_⟩ <;> simp [World.cell?,World.frozen?,h]

set_option maxHeartbeats 2000000 in
theorem ownVersion_any (n:Int) (g:Bool) (L:List Vl) (v:Value) (w:World) (hR:SlV w w.heap.size v L) (hlen:L.length ≤ 3518437208882) :
  Calls Tryz.prog 137 #[.agg #[.int .u64 n,.bool g,v]] w fun e w' => (∃ v',e = .returned (.agg #[.int .u64 n,.bool g,v']) ∧ OwnV w' w.heap.size v' L) ∧ Below w.heap.size w w' := by
 obtain ⟨q,c,rfl,hr,hq⟩ := hR
 have HR:Hid (∀ w1,Below w.heap.size w w1 → SlV w1 w1.heap.size (.slice q L.length c) L) := fun w1 h => ⟨q,c,rfl,hr.on h,hq⟩
 have C1:Hid (∀ w1,Below w.heap.size w w1 → Calls Tryz.prog 138 #[.slice q L.length c] w1 fun e w' => (∃ v',e = .returned v' ∧ OwnV w' w1.heap.size v' L) ∧ Below w1.heap.size w1 w') := fun w1 h => ownRow_any L _ w1 (HR.out w1 h) hlen
 clear hr hq HR
 go_enter Tryz.func137,Tryz.ntmps137
 go_wp2_with fail
 have hx1 := Box.new w #[.int .u64 n,.bool g,.slice q L.length c] 81
 have hx2 := Box.new (w.alloc (.cells #[.int .u64 n,.bool g,.slice q L.length c] 81)) #[.int .u64 0,.bool false,.slice none 0 0] 81
 have hx1' := hx1.on ((Below.refl _ _).alloc (Nat.le_refl _) (.cells #[.int .u64 0,.bool false,.slice none 0 0] 81))
 have hb2:Below w.heap.size w ((w.alloc (.cells #[.int .u64 n,.bool g,.slice q L.length c] 81)).alloc (.cells #[.int .u64 0,.bool false,.slice none 0 0] 81)) := by go_grown
 have hs1:(w.alloc (.cells #[.int .u64 n,.bool g,.slice q L.length c] 81)).heap.size = w.heap.size + 1 := by simp [go_sem]
 rw [hs1] at hx2
 have H12:Hid (Box _ w.heap.size _ _ ∧ Box _ (w.heap.size + 1) _ _ ∧ Below w.heap.size w _) := ⟨hx1',hx2,hb2⟩
 clear hx1 hx2 hx1' hb2 hs1
 generalize (w.alloc (.cells #[.int .u64 n,.bool g,.slice q L.length c] 81)).alloc (.cells #[.int .u64 0,.bool false,.slice none 0 0] 81) = w2 at *
 refine (C1.out _ H12.out.2.2).mono ?_
 rintro e w3 ⟨⟨v',rfl,ho⟩,hb3⟩
 obtain ⟨⟨x0,x1,x2⟩,x3,x4,x5⟩ := box3 (H12.out.1.on hb3)
 obtain ⟨⟨y0,y1,y2⟩,y3,y4,y5⟩ := box3 (H12.out.2.1.on hb3)
 have HB3:Hid (Below w.heap.size w w3 ∧ w3.heap.size ≥ w.heap.size + 2) := ⟨H12.out.2.2.trans (hb3.mono H12.out.2.2.size),by have := (H12.out.2.1.on hb3).lt; omega⟩
 have hN:Hid (OwnV w3 (w.heap.size + 2) v' L) := ho.base (by have := H12.out.2.1.lt; omega)
 have hX := H12.out.2.1.on hb3
 clear ho hb3 H12
 obtain ⟨q',c',rfl,_⟩ := hN.out.row
 have hx3:Hid (Box w3 (w.heap.size + 1) #[.int .u64 0,.bool false,.slice none 0 0] 81) := hX
 clear hX
 go_wp2_with fail
 have hZ := (((hx3.out.off (i := 2) (.slice q' L.length c') (show w.heap.size + 1 ≠ w.heap.size by omega)).set (i := 0) (.int .u64 n)).set (i := 1) (.bool g)).set (i := 2) (.slice q' L.length c')
 have hN4 := (((hN.out.off (i := 2) (.slice q' L.length c') (show w.heap.size < w.heap.size + 2 by omega)).off (i := 0) (.int .u64 n) (show w.heap.size + 1 < w.heap.size + 2 by omega)).off (i := 1) (.bool g) (show w.heap.size + 1 < w.heap.size + 2 by omega)).off (i := 2) (.slice q' L.length c') (show w.heap.size + 1 < w.heap.size + 2 by omega)
 have hB4 := (((HB3.out.1.setCell (p := ⟨w.heap.size,2,none⟩) (Nat.le_refl _) (.slice q' L.length c')).setCell (p := ⟨w.heap.size + 1,0,none⟩) (Nat.le_succ _) (.int .u64 n)).setCell (p := ⟨w.heap.size + 1,1,none⟩) (Nat.le_succ _) (.bool g)).setCell (p := ⟨w.heap.size + 1,2,none⟩) (Nat.le_succ _) (.slice q' L.length c')
 generalize (((w3.setCell ⟨w.heap.size,2,none⟩ (.slice q' L.length c')).setCell ⟨w.heap.size + 1,0,none⟩ (.int .u64 n)).setCell ⟨w.heap.size + 1,1,none⟩ (.bool g)).setCell ⟨w.heap.size + 1,2,none⟩ (.slice q' L.length c') = w4 at *
 obtain ⟨⟨z0,z1,z2⟩,_⟩ := box3 hZ
 (try simp only [Exit.inBlock,Exit.then])
 refine bodyPost_ret (v := .agg #[.int .u64 n,.bool g,.slice q' L.length c']) (by simp [results,Tryz.results137,go_sem,z0,z1,z2]) rfl ?_
 exact ⟨⟨_,rfl,hN4.base (by omega)⟩,hB4⟩

set_option maxHeartbeats 2000000 in
theorem ownWrite_any (n:Int) (g:Bool) (L:List Vl) (v:Value) (w:World) (hR:SlV w w.heap.size v L) (hlen:L.length ≤ 3518437208882) :
  Calls Tryz.prog 133 #[.agg #[.int .i64 n,.bool g,v]] w fun e w' => (∃ v',e = .returned (.agg #[.int .i64 n,.bool g,v']) ∧ OwnV w' w.heap.size v' L) ∧ Below w.heap.size w w' := by
 obtain ⟨q,c,rfl,hr,hq⟩ := hR
 have HR:Hid (∀ w1,Below w.heap.size w w1 → SlV w1 w1.heap.size (.slice q L.length c) L) := fun w1 h => ⟨q,c,rfl,hr.on h,hq⟩
 have C1:Hid (∀ w1,Below w.heap.size w w1 → Calls Tryz.prog 138 #[.slice q L.length c] w1 fun e w' => (∃ v',e = .returned v' ∧ OwnV w' w1.heap.size v' L) ∧ Below w1.heap.size w1 w') := fun w1 h => ownRow_any L _ w1 (HR.out w1 h) hlen
 clear hr hq HR
 go_enter Tryz.func133,Tryz.ntmps133
 go_wp2_with fail
 have hx1 := Box.new w #[.int .i64 n,.bool g,.slice q L.length c] 38
 have hx2 := Box.new (w.alloc (.cells #[.int .i64 n,.bool g,.slice q L.length c] 38)) #[.int .i64 0,.bool false,.slice none 0 0] 38
 have hx1' := hx1.on ((Below.refl _ _).alloc (Nat.le_refl _) (.cells #[.int .i64 0,.bool false,.slice none 0 0] 38))
 have hb2:Below w.heap.size w ((w.alloc (.cells #[.int .i64 n,.bool g,.slice q L.length c] 38)).alloc (.cells #[.int .i64 0,.bool false,.slice none 0 0] 38)) := by go_grown
 have hs1:(w.alloc (.cells #[.int .i64 n,.bool g,.slice q L.length c] 38)).heap.size = w.heap.size + 1 := by simp [go_sem]
 rw [hs1] at hx2
 have H12:Hid (Box _ w.heap.size _ _ ∧ Box _ (w.heap.size + 1) _ _ ∧ Below w.heap.size w _) := ⟨hx1',hx2,hb2⟩
 clear hx1 hx2 hx1' hb2 hs1
 generalize (w.alloc (.cells #[.int .i64 n,.bool g,.slice q L.length c] 38)).alloc (.cells #[.int .i64 0,.bool false,.slice none 0 0] 38) = w2 at *
 refine (C1.out _ H12.out.2.2).mono ?_
 rintro e w3 ⟨⟨v',rfl,ho⟩,hb3⟩
 obtain ⟨⟨x0,x1,x2⟩,x3,x4,x5⟩ := box3 (H12.out.1.on hb3)
 obtain ⟨⟨y0,y1,y2⟩,y3,y4,y5⟩ := box3 (H12.out.2.1.on hb3)
 have HB3:Hid (Below w.heap.size w w3 ∧ w3.heap.size ≥ w.heap.size + 2) := ⟨H12.out.2.2.trans (hb3.mono H12.out.2.2.size),by have := (H12.out.2.1.on hb3).lt; omega⟩
 have hN:Hid (OwnV w3 (w.heap.size + 2) v' L) := ho.base (by have := H12.out.2.1.lt; omega)
 have hX := H12.out.2.1.on hb3
 clear ho hb3 H12
 obtain ⟨q',c',rfl,_⟩ := hN.out.row
 have hx3:Hid (Box w3 (w.heap.size + 1) #[.int .i64 0,.bool false,.slice none 0 0] 38) := hX
 clear hX
 go_wp2_with fail
 have hZ := (((hx3.out.off (i := 2) (.slice q' L.length c') (show w.heap.size + 1 ≠ w.heap.size by omega)).set (i := 0) (.int .i64 n)).set (i := 1) (.bool g)).set (i := 2) (.slice q' L.length c')
 have hN4 := (((hN.out.off (i := 2) (.slice q' L.length c') (show w.heap.size < w.heap.size + 2 by omega)).off (i := 0) (.int .i64 n) (show w.heap.size + 1 < w.heap.size + 2 by omega)).off (i := 1) (.bool g) (show w.heap.size + 1 < w.heap.size + 2 by omega)).off (i := 2) (.slice q' L.length c') (show w.heap.size + 1 < w.heap.size + 2 by omega)
 have hB4 := (((HB3.out.1.setCell (p := ⟨w.heap.size,2,none⟩) (Nat.le_refl _) (.slice q' L.length c')).setCell (p := ⟨w.heap.size + 1,0,none⟩) (Nat.le_succ _) (.int .i64 n)).setCell (p := ⟨w.heap.size + 1,1,none⟩) (Nat.le_succ _) (.bool g)).setCell (p := ⟨w.heap.size + 1,2,none⟩) (Nat.le_succ _) (.slice q' L.length c')
 generalize (((w3.setCell ⟨w.heap.size,2,none⟩ (.slice q' L.length c')).setCell ⟨w.heap.size + 1,0,none⟩ (.int .i64 n)).setCell ⟨w.heap.size + 1,1,none⟩ (.bool g)).setCell ⟨w.heap.size + 1,2,none⟩ (.slice q' L.length c') = w4 at *
 obtain ⟨⟨z0,z1,z2⟩,_⟩ := box3 hZ
 (try simp only [Exit.inBlock,Exit.then])
 refine bodyPost_ret (v := .agg #[.int .i64 n,.bool g,.slice q' L.length c']) (by simp [results,Tryz.results133,go_sem,z0,z1,z2]) rfl ?_
 exact ⟨⟨_,rfl,hN4.base (by omega)⟩,hB4⟩

end Go.Proofs.YtcibcfghkidncaaGreatDoor

namespace Go.Proofs.YtcibcfghkidncaaGreatDoor
open Go.RowKit
set_option maxRecDepth 100000

theorem tup2I {v:Value} {a b:Int} (h:a = b):Ending.returned (.tuple #[v,.int .i64 a]) = Ending.returned (.tuple #[v,.int .i64 b]) := by rw [h]
theorem at_eq {L:List Rw} {s:Int} {j:Nat} (hj:j < L.length):((j:Int) = atI L s) ↔ j = atN L s := by
 unfold atI
 split <;> omega
theorem prn_yes {L:List Rw} {s:Int} {j:Nat} {Z:List (Rw × Value)} (hj:j < L.length) (h:kpR s (atN L s) (L[j],j) = true) (v:Value) (hZ:Z.map Prod.fst = prnJ L s j):(Z ++ [(L[j],v)]).map Prod.fst = prnJ L s (j + 1) := by
 rw [prnJ_succ hj,h,List.map_append,hZ]
 rfl
theorem prn_no {L:List Rw} {s:Int} {j:Nat} {Z:List (Rw × Value)} (hj:j < L.length) (h:kpR s (atN L s) (L[j],j) = false) (hZ:Z.map Prod.fst = prnJ L s j):Z.map Prod.fst = prnJ L s (j + 1) := by
 rw [prnJ_succ hj,h,hZ]
 simp

set_option maxHeartbeats 4000000 in
theorem prune_any (L:List Rw) (p:Option Addr) (c:Nat) (s:Int) (w:World) (hR:RdR .u64 w w.heap.size p L) (hlen:L.length ≤ 3518437208882) (hsh:shortR L) :
  Calls Tryz.prog 107 #[.slice p L.length c,.int .u64 s] w fun e w' => (∃ v Z,e = .returned (.tuple #[v,.int .i64 ((L.length - (prnL L s).length:Nat):Int)]) ∧ Z.map Prod.fst = prnL L s ∧ OwnRs .u64 81 w' w.heap.size v Z) ∧ Below w.heap.size w w' := by
 have HR:Hid (RdR _ _ _ _ _) := hR
 have HS:Hid (shortR L) := hsh
 have HNL:Hid (prnL L s = prnJ L s L.length) := rfl
 have C1:Hid (Calls _ _ _ _ _) := at_any L p c s w hR (by omega)
 clear hR hsh
 go_enter Tryz.func107,Tryz.ntmps107
 go_wp2_with fail
 refine C1.out.mono ?_
 rintro e w1 ⟨rfl,hb1⟩
 have HB1:Hid (Below w.heap.size w w1) := hb1
 clear hb1 C1
 go_wp2_with fail
 go_loopw [6,15] (fun v i wr => ∃ (j:Nat) (Z:List (Rw × Value)),j ≤ L.length ∧ i = .int .i64 (j:Int) ∧ Hid (Z.map Prod.fst = prnJ L s j) ∧ Hid (OwnRs .u64 81 wr w.heap.size v Z) ∧ Below w.heap.size w wr) (fun _ i _ => L.length - (intOf i).toNat)
 case atStart => exact ⟨0,[],Nat.zero_le _,by go_num,rfl,OwnRs.nil _ _ _ _,HB1.out⟩
 case round =>
  obtain ⟨j,Z,hj,rfl,hZ,hO,hn⟩ := hrel
  have hZl:Z.length ≤ j := by
   have := congrArg List.length hZ.out
   rw [List.length_map] at this
   rw [this]
   exact prnJ_len _ _ _
  by_cases hj0:j = L.length
  ·subst hj0
   have HZ2:Hid (Z.map Prod.fst = prnL L s) := hZ.out.trans HNL.out.symm
   have HL2:Hid (Z.length = (prnL L s).length) := by
    show _ = _
    rw [← HZ2.out,List.length_map]
   obtain ⟨pv,cv,rfl,_⟩ := owns_len hO.out.1
   go_wp2
   go_ret2
   refine ⟨⟨_,Z,?_,HZ2.out,hO.out⟩,hn⟩
   rw [← HL2.out]
   exact tup2I (by omega)
  ·have hj1:j < L.length := by omega
   obtain ⟨b,o,q,d,rfl,hbB,c0,c1,c2,hr,hq⟩ := HR.out j hj1
   have a0 := (hn.cell (p := ⟨b,o + j * 3,none⟩) hbB).trans c0
   have a1 := (hn.cell (p := ⟨b,o + j * 3 + 1,none⟩) hbB).trans c1
   have a2 := (hn.cell (p := ⟨b,o + j * 3 + 2,none⟩) hbB).trans c2
   have HSl:Hid (SlV w w.heap.size (.slice q L[j].row.length d) L[j].row) := ⟨q,d,rfl,hr,hq⟩
   have hshj := HS.out j hj1
   have HK:Hid (kpR s (atN L s) (L[j],j) = (decide (s < L[j].n) || (decide (j = atN L s) && !L[j].gn))) := rfl
   have CV:Hid (∀ w1:World,Below w.heap.size w w1 → Calls Tryz.prog 137 #[.agg #[.int .u64 L[j].n,.bool L[j].gn,.slice q L[j].row.length d]] w1 fun e w' => (∃ v',e = .returned (.agg #[.int .u64 L[j].n,.bool L[j].gn,v']) ∧ OwnV w' w1.heap.size v' L[j].row) ∧ Below w1.heap.size w1 w') := fun w1 h => ownVersion_any _ _ _ _ w1 ((HSl.out.keep h).mono h.size) hshj
   have HX:Hid (∀ v,rcell .u64 (L[j],v) = [.int .u64 L[j].n,.bool L[j].gn,v]) := fun v => rfl
   clear c0 c1 c2 hj0 hr hshj
   generalize hxn:L[j].n = xn at *
   generalize hxg:L[j].gn = xg at *
   generalize hxl:L[j].row.length = xl at *
   clear hxn hxg hxl
   cases h1:decide (s < xn) with
   | true =>
    have HK1:Hid (kpR s (atN L s) (L[j],j) = true) := HK.out.trans (by rw [h1]; rfl)
    clear HK
    go_wp2_with fail
    have hbx:Below w.heap.size w (wr.alloc (.cells #[.int .u64 xn,.bool xg,.slice q xl d] 81)) := by
     have hsz := hn.size
     go_grown
    refine (CV.out _ hbx).mono ?_
    rintro e w5 ⟨⟨v5,rfl,ho5⟩,hb5⟩
    have HB5:Hid (Below w.heap.size w w5) := hbx.trans (hb5.mono hbx.size)
    have HO5:Hid (OwnRs .u64 81 w5 w.heap.size u6 Z) := (hO.out.kept (w' := wr.alloc (.cells #[.int .u64 xn,.bool xg,.slice q xl d] 81)) (by go_grown)).kept hb5
    have HV5:Hid (OwnV w5 w.heap.size v5 L[j].row) := ho5.base hbx.size
    have hsz5 := HB5.out.size
    clear ho5 hb5 hbx hO
    obtain ⟨pv,cv,rfl,_⟩ := owns_len HO5.out.1
    have h1c := HV5.out.sl.one
    go_wp2_with (first | (at_builtin; go_loud (refine wpList_app1 w5 rfl (.tmp 34) (.tmp 37) 81 72 _ 3 40 rfl Tryz.underlying72 info_ver rfl (by decide) w.heap.size _ _ _ (by rfl) HO5.out.1 [.int .u64 xn,.bool xg,v5] rfl (by intro u hu; simp only [List.mem_cons,List.not_mem_nil,or_false] at hu; rcases hu with rfl | rfl | rfl; rfl; rfl; exact h1c) _ rfl (by simp) (by omega) (by omega) hsz5 ?_); intro v6 w6 h6 h7 h8))
    have H6:Hid (OwnRs .u64 81 w6 w.heap.size v6 (Z ++ [(L[j],v5)])) := HO5.out.app (z := (L[j],v5)) HV5.out (by decide) (by rw [HX.out]; exact h6) (by rw [HX.out]; exact h8)
    have HB6:Hid (Below w.heap.size w w6) := HB5.out.trans h7
    clear h6 h7 h8
    go_roundw
    case rel => exact ⟨j + 1,Z ++ [(L[j],v5)],hj1,by go_num,prn_yes hj1 HK1.out v5 hZ.out,H6,HB6.out⟩
    case measure => simp [intOf]; omega
   | false =>
    by_cases h2:(j:Int) = atI L s
    ·cases xg with
     | false =>
      have HK1:Hid (kpR s (atN L s) (L[j],j) = true) := HK.out.trans (by rw [h1,decide_eq_true ((at_eq hj1).1 h2)]; rfl)
      clear HK
      have h3:((j:Int) == atI L s) = true := beq_iff_eq.2 h2
      clear h2
      go_wp2_with fail
      have hbx:Below w.heap.size w (wr.alloc (.cells #[.int .u64 xn,.bool false,.slice q xl d] 81)) := by
       have hsz := hn.size
       go_grown
      refine (CV.out _ hbx).mono ?_
      rintro e w5 ⟨⟨v5,rfl,ho5⟩,hb5⟩
      have HB5:Hid (Below w.heap.size w w5) := hbx.trans (hb5.mono hbx.size)
      have HO5:Hid (OwnRs .u64 81 w5 w.heap.size u6 Z) := (hO.out.kept (w' := wr.alloc (.cells #[.int .u64 xn,.bool false,.slice q xl d] 81)) (by go_grown)).kept hb5
      have HV5:Hid (OwnV w5 w.heap.size v5 L[j].row) := ho5.base hbx.size
      have hsz5 := HB5.out.size
      clear ho5 hb5 hbx hO
      obtain ⟨pv,cv,rfl,_⟩ := owns_len HO5.out.1
      have h1c := HV5.out.sl.one
      go_wp2_with (first | (at_builtin; go_loud (refine wpList_app1 w5 rfl (.tmp 34) (.tmp 37) 81 72 _ 3 40 rfl Tryz.underlying72 info_ver rfl (by decide) w.heap.size _ _ _ (by rfl) HO5.out.1 [.int .u64 xn,.bool false,v5] rfl (by intro u hu; simp only [List.mem_cons,List.not_mem_nil,or_false] at hu; rcases hu with rfl | rfl | rfl; rfl; rfl; exact h1c) _ rfl (by simp) (by omega) (by omega) hsz5 ?_); intro v6 w6 h6 h7 h8))
      have H6:Hid (OwnRs .u64 81 w6 w.heap.size v6 (Z ++ [(L[j],v5)])) := HO5.out.app (z := (L[j],v5)) HV5.out (by decide) (by rw [HX.out]; exact h6) (by rw [HX.out]; exact h8)
      have HB6:Hid (Below w.heap.size w w6) := HB5.out.trans h7
      clear h6 h7 h8
      go_roundw
      case rel => exact ⟨j + 1,Z ++ [(L[j],v5)],hj1,by go_num,prn_yes hj1 HK1.out v5 hZ.out,H6,HB6.out⟩
      case measure => simp [intOf]; omega
     | true =>
      have HK1:Hid (kpR s (atN L s) (L[j],j) = false) := HK.out.trans (by rw [h1,decide_eq_true ((at_eq hj1).1 h2)]; rfl)
      clear HK
      have h3:((j:Int) == atI L s) = true := beq_iff_eq.2 h2
      clear h2
      go_wp2_with fail
      go_roundw
      case rel => have hsz := hn.size; exact ⟨j + 1,Z,hj1,by go_num,prn_no hj1 HK1.out hZ.out,hO.out.kept (by go_grown),by go_grown⟩
      case measure => simp [intOf]; omega
    ·have HK1:Hid (kpR s (atN L s) (L[j],j) = false) := HK.out.trans (by rw [h1,decide_eq_false (fun h => h2 ((at_eq hj1).2 h))]; rfl)
     clear HK
     have h3:((j:Int) == atI L s) = false := beq_eq_false_iff_ne.2 h2
     clear h2
     go_wp2_with fail
     go_roundw
     case rel => have hsz := hn.size; exact ⟨j + 1,Z,hj1,by go_num,prn_no hj1 HK1.out hZ.out,hO.out.kept (by go_grown),by go_grown⟩
     case measure => simp [intOf]; omega

set_option maxHeartbeats 4000000 in
theorem rprune_any (L:List Rw) (p:Option Addr) (c:Nat) (s:Int) (w:World) (hR:RdR .u64 w w.heap.size p L) (hlen:L.length ≤ 3518437208882) (hsh:shortR L) :
  Calls Tryz.prog 77 #[.slice p L.length c,.int .u64 s] w fun e w' => (∃ v Z,e = .returned (.tuple #[v,.int .i64 ((L.length - (prnL L s).length:Nat):Int)]) ∧ Z.map Prod.fst = prnL L s ∧ HasRs .u64 81 w' w.heap.size v Z) ∧ Below w.heap.size w w' := by
 have HR:Hid (RdR _ _ _ _ _) := hR
 have HS:Hid (shortR L) := hsh
 have HNL:Hid (prnL L s = prnJ L s L.length) := rfl
 have C1:Hid (Calls _ _ _ _ _) := rat_any L p c s w hR (by omega)
 clear hR hsh
 go_enter Tryz.func77,Tryz.ntmps77
 go_wp2_with fail
 refine C1.out.mono ?_
 rintro e w1 ⟨rfl,hb1⟩
 have HB1:Hid (Below w.heap.size w w1) := hb1
 clear hb1 C1
 go_wp2_with fail
 go_loopw [7,8] (fun v i wr => ∃ (j:Nat) (Z:List (Rw × Value)),j ≤ L.length ∧ i = .int .i64 (j:Int) ∧ Hid (Z.map Prod.fst = prnJ L s j) ∧ Hid (HasRs .u64 81 wr w.heap.size v Z) ∧ Below w.heap.size w wr) (fun _ i _ => L.length - (intOf i).toNat)
 case atStart => exact ⟨0,[],Nat.zero_le _,by go_num,rfl,HasRs.nil _ _ _ _,HB1.out⟩
 case round =>
  obtain ⟨j,Z,hj,rfl,hZ,hO,hn⟩ := hrel
  have hZl:Z.length ≤ j := by
   have := congrArg List.length hZ.out
   rw [List.length_map] at this
   rw [this]
   exact prnJ_len _ _ _
  by_cases hj0:j = L.length
  ·subst hj0
   have HZ2:Hid (Z.map Prod.fst = prnL L s) := hZ.out.trans HNL.out.symm
   have HL2:Hid (Z.length = (prnL L s).length) := by
    show _ = _
    rw [← HZ2.out,List.length_map]
   obtain ⟨pv,cv,rfl,_⟩ := owns_len hO.out.1
   go_wp2
   go_ret2
   refine ⟨⟨_,Z,?_,HZ2.out,hO.out⟩,hn⟩
   rw [← HL2.out]
   exact tup2I (by omega)
  ·have hj1:j < L.length := by omega
   obtain ⟨b,o,q,d,rfl,hbB,c0,c1,c2,hr,hq⟩ := HR.out j hj1
   have a0 := (hn.cell (p := ⟨b,o + j * 3,none⟩) hbB).trans c0
   have a1 := (hn.cell (p := ⟨b,o + j * 3 + 1,none⟩) hbB).trans c1
   have a2 := (hn.cell (p := ⟨b,o + j * 3 + 2,none⟩) hbB).trans c2
   have HSl:Hid (SlV w w.heap.size (.slice q L[j].row.length d) L[j].row) := ⟨q,d,rfl,hr,hq⟩
   have hshj := HS.out j hj1
   have HK:Hid (kpR s (atN L s) (L[j],j) = (decide (s < L[j].n) || (decide (j = atN L s) && !L[j].gn))) := rfl
   have HX:Hid (∀ v,rcell .u64 (L[j],v) = [.int .u64 L[j].n,.bool L[j].gn,v]) := fun v => rfl
   clear c0 c1 c2 hj0 hr hshj
   generalize hxn:L[j].n = xn at *
   generalize hxg:L[j].gn = xg at *
   generalize hxl:L[j].row.length = xl at *
   clear hxn hxg hxl
   cases h1:decide (s < xn) with
   | true =>
    have HK1:Hid (kpR s (atN L s) (L[j],j) = true) := HK.out.trans (by rw [h1]; rfl)
    clear HK
    have HZV:Hid (SlV wr w.heap.size (.slice q xl d) L[j].row) := HSl.out.keep hn
    have hszr := hn.size
    obtain ⟨pv,cv,rfl,_⟩ := owns_len hO.out.1
    go_wp2_with (first | (at_builtin; go_loud (refine wpList_app1 wr rfl (.tmp 38) (.tmp 43) 81 72 _ 3 40 rfl Tryz.underlying72 info_ver rfl (by decide) w.heap.size _ _ _ (by rfl) hO.out.1 [.int .u64 xn,.bool xg,.slice q xl d] rfl (by simp [Value.oneCell']) _ rfl (by simp) (by omega) (by omega) hszr ?_); intro v6 w6 h6 h7 h8))
    have H6:Hid (HasRs .u64 81 w6 w.heap.size v6 (Z ++ [(L[j],.slice q xl d)])) := hO.out.app (z := (L[j],.slice q xl d)) HZV.out (by rw [HX.out]; exact h6) h7
    have HB6:Hid (Below w.heap.size w w6) := hn.trans h7
    clear h6 h7 h8
    go_roundw
    case rel => exact ⟨j + 1,Z ++ [(L[j],.slice q xl d)],hj1,by go_num,prn_yes hj1 HK1.out _ hZ.out,H6,HB6.out⟩
    case measure => simp [intOf]; omega
   | false =>
    by_cases h2:(j:Int) = atI L s
    ·cases xg with
     | false =>
      have HK1:Hid (kpR s (atN L s) (L[j],j) = true) := HK.out.trans (by rw [h1,decide_eq_true ((at_eq hj1).1 h2)]; rfl)
      clear HK
      have h3:((j:Int) == atI L s) = true := beq_iff_eq.2 h2
      clear h2
      have HZV:Hid (SlV wr w.heap.size (.slice q xl d) L[j].row) := HSl.out.keep hn
      have hszr := hn.size
      obtain ⟨pv,cv,rfl,_⟩ := owns_len hO.out.1
      go_wp2_with (first | (at_builtin; go_loud (refine wpList_app1 wr rfl (.tmp 38) (.tmp 43) 81 72 _ 3 40 rfl Tryz.underlying72 info_ver rfl (by decide) w.heap.size _ _ _ (by rfl) hO.out.1 [.int .u64 xn,.bool false,.slice q xl d] rfl (by simp [Value.oneCell']) _ rfl (by simp) (by omega) (by omega) hszr ?_); intro v6 w6 h6 h7 h8))
      have H6:Hid (HasRs .u64 81 w6 w.heap.size v6 (Z ++ [(L[j],.slice q xl d)])) := hO.out.app (z := (L[j],.slice q xl d)) HZV.out (by rw [HX.out]; exact h6) h7
      have HB6:Hid (Below w.heap.size w w6) := hn.trans h7
      clear h6 h7 h8
      go_roundw
      case rel => exact ⟨j + 1,Z ++ [(L[j],.slice q xl d)],hj1,by go_num,prn_yes hj1 HK1.out _ hZ.out,H6,HB6.out⟩
      case measure => simp [intOf]; omega
     | true =>
      have HK1:Hid (kpR s (atN L s) (L[j],j) = false) := HK.out.trans (by rw [h1,decide_eq_true ((at_eq hj1).1 h2)]; rfl)
      clear HK
      have h3:((j:Int) == atI L s) = true := beq_iff_eq.2 h2
      clear h2
      go_wp2_with fail
      go_roundw
      case rel => exact ⟨j + 1,Z,hj1,by go_num,prn_no hj1 HK1.out hZ.out,hO.out,hn⟩
      case measure => simp [intOf]; omega
    ·have HK1:Hid (kpR s (atN L s) (L[j],j) = false) := HK.out.trans (by rw [h1,decide_eq_false (fun h => h2 ((at_eq hj1).2 h))]; rfl)
     clear HK
     have h3:((j:Int) == atI L s) = false := beq_eq_false_iff_ne.2 h2
     clear h2
     go_wp2_with fail
     go_roundw
     case rel => exact ⟨j + 1,Z,hj1,by go_num,prn_no hj1 HK1.out hZ.out,hO.out,hn⟩
     case measure => simp [intOf]; omega

end Go.Proofs.YtcibcfghkidncaaGreatDoor

namespace Go.Proofs.YtcibcfghkidncaaGreatDoor
open Go.RowKit
set_option maxRecDepth 100000

end Go.Proofs.YtcibcfghkidncaaGreatDoor
