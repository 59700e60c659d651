/- What the proofs of this seat share: acts, opened; the table that the rows list; the witness's world. reads: a row reads the same by both. made: a store behind some acts. Behind Back of all, all is as if nothing had been written: plain mathematics. -/
import Derived.Test.YtcibcfghkidncaaGreatDoorCards
import Derived.Test.YtcibcfghkidncaaGreatDoorTie
import Derived.Lib.LaidTab
import Derived.Stop.LaidErr
import Derived.WalkLawsBesides
import Derived.Lay
import Derived.SevenTiedAt
import Derived.ChangeMaps5
import Derived.Deep.Cut
import Derived.Deep.CutRange
import Derived.Test.YtcibcfghkidncaaGreatDoorGFChn8
import Derived.Test.YtcibcfghkidncaaGreatDoorGWLw22
namespace Go.Proofs.YtcibcfghkidncaaGreatDoor
open Go.ChangeShapes Go.WideShapes Go.ChangeAt Go.RowKit Go.Joins Go.Shelf Go.Lib Go.Deep
set_option maxRecDepth 100000

section
variable {H:Type} {enc:TypeId × Value → H} {P:Program}
theorem trod_struct6 {w:World} {base:Nat} {spare:Nat → Bool} {held:Bool} {t:TypeId} {f0 f1 f2 f3 f4 f5:Field} {fuel:Nat} {cs:List Value} {x:DataW H × List MemPlace} (ht:P.underlying t = some (.struct #[f0,f1,f2,f3,f4,f5])) (h:DataW.trod enc P w base spare held fuel t cs = some x) :
  ∃ y0 y1 y2 y3 y4 y5 n,x.1 = .agg [y0.1,y1.1,y2.1,y3.1,y4.1,y5.1] ∧ cs.length = P.cellsOf t ∧ DataW.trod enc P w base spare held n f0.type ((cs.drop f0.offset).take (P.cellsOf f0.type)) = some y0 ∧
   DataW.trod enc P w base spare held n f1.type ((cs.drop f1.offset).take (P.cellsOf f1.type)) = some y1 ∧ DataW.trod enc P w base spare held n f2.type ((cs.drop f2.offset).take (P.cellsOf f2.type)) = some y2 ∧
   DataW.trod enc P w base spare held n f3.type ((cs.drop f3.offset).take (P.cellsOf f3.type)) = some y3 ∧ DataW.trod enc P w base spare held n f4.type ((cs.drop f4.offset).take (P.cellsOf f4.type)) = some y4 ∧ DataW.trod enc P w base spare held n f5.type ((cs.drop f5.offset).take (P.cellsOf f5.type)) = some y5 := by
 obtain ⟨xs,n,_,rfl,hl,hlen,hf⟩ := DataW.trod_struct ht h
 match xs,hlen with
 | [y0,y1,y2,y3,y4,y5],_ => exact ⟨y0,y1,y2,y3,y4,y5,n,by simp,hl,by simpa using hf 0 f0 rfl,by simpa using hf 1 f1 rfl,by simpa using hf 2 f2 rfl,by simpa using hf 3 f3 rfl,by simpa using hf 4 f4 rfl,by simpa using hf 5 f5 rfl⟩
end
theorem cellsAct:Tryz.prog.cellsOf 41 = 8 := by kernel_rfl
theorem bytesAct:Tryz.prog.bytesOf 41 = 80 := by kernel_rfl
theorem wf_u64 {k:Int} (h:(Lit.int .u64 k).wf = true):0 ≤ k := by
 simp only [Lit.wf,Bool.and_eq_true,decide_eq_true_eq] at h
 exact h.1
def IsAc (W:World) (cs:List Value) (a:AcR):Prop := ∃ q c,cs = [.int .i64 a.k,.int .i64 a.sl,.int .i64 a.tx,.int .i64 a.v.n,.bool a.v.gn,.slice q a.v.row.length c,.int .u64 a.st,.int .i64 a.lv] ∧ RowV W W.heap.size q a.v.row ∧ (q = none → c = 0) ∧ a.ok
theorem openAct {H:Type} {enc:TypeId × Value → H} {W:World} {fuel:Nat} {cs:List Value} {x:DataW H × List MemPlace} (h:DataW.trod enc Tryz.prog W 0 (fun _ => true) true fuel 41 cs = some x) (hr:Reach Tryz.prog 41 x.1):∃ a:AcR,IsAc W cs a := by
 obtain ⟨y0,y1,y2,y3,y4,y5,n,hx,hl,h0,h1,h2,h3,h4,h5⟩ := trod_struct6 Tryz.underlying41 h
 rw [hx] at hr
 rw [cellsAct] at hl
 match cs,hl with
 | [c0,c1,c2,c3,c4,c5,c6,c7],_ =>
  obtain ⟨k0,e0,_⟩ := DataW.trod_int Tryz.underlying3 h0
  obtain ⟨k1,e1,_⟩ := DataW.trod_int Tryz.underlying3 h1
  obtain ⟨k2,e2,_,w2⟩ := DataW.trod_int Tryz.underlying3 h2
  obtain ⟨r,⟨qr,cr,e3,hRr,hlr,hqr⟩,_⟩ := openWri h3 (hr.part Tryz.underlying41 (j := 3) (u := 38) (d := y3.1) rfl rfl)
  obtain ⟨k4,e4,_,w4⟩ := DataW.trod_int Tryz.underlying39 h4
  obtain ⟨k5,e5,_,w5⟩ := DataW.trod_int Tryz.underlying3 h5
  simp [cellsI,cellsU,cellsWri] at e0 e1 e2 e3 e4 e5
  obtain ⟨rfl,rfl,rfl⟩ := e3
  subst e0 e1 e2 e4 e5
  have g2 := wf_i64 w2
  exact ⟨⟨k0,k1,k2,r,k4,k5⟩,qr,cr,rfl,hRr,hqr,⟨hlr,g2.1,show k2 < 9223372036854775808 by omega,(wf_i64 w5).2,wf_u64 w4⟩⟩
theorem openActs {H:Type} {enc:TypeId × Value → H} {W:World} {b0:Nat} {v:Value} {d:DataW H} {p:List MemPlace}
  (hv:Value.okWide Tryz.prog W .any b0 22 v) (h:DataW.Trod enc Tryz.prog W 0 (fun _ => true) true 22 v d p) (hr:Reach Tryz.prog 22 d) :
  ∃ (A:List AcR) (q:Option Addr) (c:Nat),v = .slice q A.length c ∧ RdA W W.heap.size q A ∧ (∀ a ∈ A,a.ok) ∧ A.length ≤ 1759218604442 := by
 obtain ⟨a0,len,cap,rfl⟩ := okWide_slice Tryz.underlying22 hv
 obtain ⟨fuel,hf⟩ := h
 obtain ⟨L,q,c,e,hl,hb,hq,he⟩ := openList (⟨0,0,0,⟨0,false,[]⟩,0,0⟩:AcR) (IsAc W) Tryz.underlying22 cellsAct (by decide) (fun n cs y h hr => openAct h hr) hf hr
 rw [bytesAct] at hb
 simp only [reachBytes] at hb
 simp [Value.cells] at e
 obtain ⟨rfl,rfl,rfl⟩ := e
 refine ⟨L,a0,cap,rfl,fun i hi => ?_,fun a ha => ?_,by omega⟩
 ·obtain ⟨b,o,e,hlt,cs',⟨q',c',rfl,hR,hq',_⟩,_,hc⟩ := he i hi
  exact ⟨b,o,q',c',e,hlt,⟨hc 0 (by decide),hc 1 (by decide),hc 2 (by decide),hc 3 (by decide),hc 4 (by decide),hc 5 (by decide),hc 6 (by decide),hc 7 (by decide)⟩,hR,hq'⟩
 ·obtain ⟨i,hi,rfl⟩ := List.getElem_of_mem ha
  obtain ⟨_,_,_,_,_,⟨_,_,_,_,_,hok⟩,_⟩ := he i hi
  exact hok
abbrev laidR:List (String × DataW Unit) := Rows.storePlaysRow.laid
theorem tab_eq:(Rows.laid_math_bits_deBruijn64tab:DataW Unit) = tabData .u8 (Lib.deBruijn64tab.map fun x:Nat => (x:Int)) := by kernel_rfl
theorem tab_of {W:World} (h:laidMetH Tryz.prog laidR W):Tab W ∧ 1 < W.heap.size := by
 rw [MakeChecks.laidMetH_plain _ _ _ (by kernel_rfl)] at h
 have h1:laidMet Tryz.prog [("math/bits.deBruijn64tab",tabData .u8 (Lib.deBruijn64tab.map fun x:Nat => (x:Int)))] W := by
  rw [← tab_eq]
  exact h
 have hg:Tryz.prog.globalNamed "math/bits.deBruijn64tab" = some 1 := by kernel_rfl
 have h2 := tabIs_of_head (g := 1) (t := 219) (e := 5) (n := 64) hg (by kernel_rfl) (by kernel_rfl) (by kernel_rfl) (by kernel_rfl) (by kernel_rfl) h1
 have h3:Tab W := fun j hj => by
  rw [h2.cell hg j (by rw [List.length_map]; exact hj)]
  have:(Lib.deBruijn64tab.map fun x:Nat => (x:Int)).getD j 0 = ((Lib.deBruijn64tab.getD j 0:Nat):Int) := by
   rw [List.getD_eq_getElem?_getD,List.getD_eq_getElem?_getD,List.getElem?_map]
   cases Lib.deBruijn64tab[j]? <;> rfl
  rw [this]
 exact ⟨h3,World.block_lt_of_cell? W _ (h3 0 (by decide))⟩
theorem shapedR (os:Os) (args:Array Value):((World.laidAll Tryz.prog os laidR).forCall (fun _ _ => 0) ⟨#[],args,[]⟩).Shaped Tryz.prog :=
 World.shaped_of_ZipB (by kernel_rfl) (by kernel_rfl)
theorem metR (os:Os) (args:Array Value):laidMetH Tryz.prog laidR ((World.laidAll Tryz.prog os laidR).forCall (fun _ _ => 0) ⟨#[],args,[]⟩).memory := by
 rw [MakeChecks.laidMetH_plain _ _ _ (by kernel_rfl)]
 exact laidMet_laidAll _ (by kernel_rfl) (by kernel_rfl)

end Go.Proofs.YtcibcfghkidncaaGreatDoor

namespace Go.Proofs.YtcibcfghkidncaaGreatDoor
open Go.RowKit Go.Lib
set_option maxRecDepth 100000

theorem shwL_len {J:Nat} {r:Rs} (h:OkR J r) (txn st:Int):(shwL (seeR r.L r.W r.tx txn st)).length ≤ 3518437208882 := by
 cases hs:seeR r.L r.W r.tx txn st with
 | none => simp [shwL]
 | some x =>
  have hx:x.row.length ≤ 3518437208882 := by
   unfold seeR at hs
   split at hs
   ·exact shortR_mem h.sW (List.mem_of_getElem? hs)
   ·exact shortR_mem h.sL (List.mem_of_getElem? hs)
  unfold shwL
  dsimp only
  split
  ·simp
  ·exact hx

end Go.Proofs.YtcibcfghkidncaaGreatDoor

namespace Go.Proofs.YtcibcfghkidncaaGreatDoor
open Go.RowKit Go.Lib
set_option maxRecDepth 100000

theorem PS.lay2 {N:Nat → Prop} {w:World} {B sb most:Nat} {M:List Rs} {Kn J:Nat} {v:Value} {b:Nat} {a0:Int} {p q:Option Addr} {n c m d:Nat} (h:PS N w B sb most M Kn J v) (hN:N b ∨ b < B) (hg : 1 ≠ b) (hb:Box w b #[.int .i64 a0,.slice p n c] 29) (a:Int):PS N ((w.setCell ⟨b,0,none⟩ (.int .i64 a)).setCell ⟨b,1,none⟩ (.slice q m d)) B sb most M Kn J v ∧ Box ((w.setCell ⟨b,0,none⟩ (.int .i64 a)).setCell ⟨b,1,none⟩ (.slice q m d)) b #[.int .i64 a,.slice q m d] 29 ∧ Frm w ((w.setCell ⟨b,0,none⟩ (.int .i64 a)).setCell ⟨b,1,none⟩ (.slice q m d)) (one1 b) := by
 obtain ⟨h2,hI,hF⟩ := int_int hb a q m d
 obtain ⟨F,hs,hn⟩ := h.sto
 have hM:Imm w ((w.setCell ⟨b,0,none⟩ (.int .i64 a)).setCell ⟨b,1,none⟩ (.slice q m d)) := Imm.of_frm hF (fun k hk => by rw [show k = b from hk]; exact hb.mut (pln2 _ _ _ _ _) (by decide))
 have hnf:¬ F b := fun hf => by
  rcases hN with hN | hN
  ·exact (hn b hN).1 hf
  ·have := (hs.mut hf).2.1
   omega
 obtain ⟨pb,dl,dm,pv,tv,C,T,sv,wo,hX,hd0,hI9,hW,hFF⟩ := hs
 refine ⟨⟨⟨F,⟨pb,dl,dm,pv,tv,C,T,sv,wo,hX.keep hF hM (fun k hk e => ?_),hd0,hI9,hW,hFF⟩,fun k hk => ⟨(hn k hk).1,Nat.lt_of_lt_of_le (hn k hk).2 hF.size⟩⟩,h.doc.imm hM,fun j hj => ?_,h.glo,Nat.le_trans h.hB hF.size⟩,h2,hF⟩
 ·have e9:k = b := e
  subst e9
  exact hnf ((hFF k).2 hk)
 ·exact (World.cell?_of_block (a := ⟨_,j,none⟩) (hF.block _ (Nat.lt_of_lt_of_le h.glo h.hB) hg)).trans (h.tab j hj)

theorem RdA.mono {w:World} {B C:Nat} {p:Option Addr} {A:List AcR} (h:RdA w B p A) (hc:B ≤ C):RdA w C p A := by
 intro i hi
 obtain ⟨b,o,q,c,e,hl,h1,hr,hq⟩ := h i hi
 exact ⟨b,o,q,c,e,Nat.lt_of_lt_of_le hl hc,h1,hr.mono hc,hq⟩

set_option maxHeartbeats 16000000 in
theorem made_ok (most:Nat) (A:List AcR) (pA:Option Addr) (cA:Nat) (w:World) (hT:Tab w) (hg : 1 < w.heap.size) (hm1:1 ≤ most) (hm2:most ≤ 65536) (hA:RdA w w.heap.size pA A) (hk:∀ a ∈ A,a.ok) (hl:A.length ≤ 1759218604442) :
  Calls Tryz.prog 13 #[.int .i64 (most:Nat),.slice pA A.length cA] w fun e w' => ∃ v,e = .returned (.tuple #[ptr1 (w.heap.size + 1),.agg #[.int .i64 (most:Nat),v],.bool true]) ∧ PS none1 w' (w.heap.size + 1) (w.heap.size + 1) most (runM most A) (65537 * A.length) A.length v ∧ Below w.heap.size w w' := by
 obtain ⟨bX,bB,bS⟩ := one_new w #[.int .i64 0,.slice none 0 0] 29
 have C1:Hid (Calls _ _ _ _ _) := newS_ok most (w.alloc (.cells #[.int .i64 0,.slice none 0 0] 29)) hm1 hm2
 have C2:Hid (∀ w1,Calls Tryz.prog 9 #[.int .i64 (most:Nat)] w1 fun e w' => e = .returned (.tuple #[.agg #[.int .i64 (most:Nat),.slice none 0 0],.int .i64 0]) ∧ Below w1.heap.size w1 w') := fun w1 => newD_ok most w1 hm1 hm2
 have HT:Hid (Tab (w.alloc (.cells #[.int .i64 0,.slice none 0 0] 29)) ∧ 1 < (w.alloc (.cells #[.int .i64 0,.slice none 0 0] 29)).heap.size) := ⟨hT.keep bB hg,by rw [bS]; omega⟩
 have HA:Hid (RdA (w.alloc (.cells #[.int .i64 0,.slice none 0 0] 29)) (w.alloc (.cells #[.int .i64 0,.slice none 0 0] 29)).heap.size pA A ∧ ∀ a ∈ A,a.ok) := ⟨(hA.keep bB).mono bB.size,hk⟩
 have HR0:Hid (Box _ _ _ _) := bX
 have HB0:Hid (Below _ _ _) := bB
 have HS0:Hid ((w.alloc (.cells #[.int .i64 0,.slice none 0 0] 29)).heap.size = w.heap.size + 1) := bS
 have HG:Hid (1 < w.heap.size) := hg
 clear hT hg hm1 hm2 hA hk bX bB bS
 obtain ⟨n,hn⟩:∃ n,A.length = n := ⟨_,rfl⟩
 have HN:Hid (A.length = n) := hn
 rw [hn] at hl
 rw [hn]
 clear hn
 go_enter Tryz.func13,Tryz.ntmps13
 go_upto_region 1 with fail
 generalize (w.alloc (.cells #[.int .i64 0,.slice none 0 0] 29)) = w0 at *
 go_wp2_with fail
 refine C1.out.mono ?_
 rintro e w1 ⟨rfl,⟨F,hs1,hF1⟩,hb1⟩
 go_wp2_with fail
 refine (C2.out _).mono ?_
 rintro e w2 ⟨rfl,hb2⟩
 obtain ⟨bX,bB,bS⟩ := one_new w2 #[.int .i64 (most:Nat),.slice none 0 0] 29
 have hb3 := hb2.trans (bB.mono hb2.size)
 have hsb := hs1.ok.2.2.2.2
 have HL0:Hid (PL w0 _ most w2.heap.size 0 (runM most (A.take 0)) (.slice none 0 0)) := ⟨⟨⟨F,hs1.on hb3,fun k hk => by
  rw [show k = w2.heap.size from hk]
  exact ⟨fun hf => by have h8 := (hs1.mut hf).2.2; have h9 := hb2.size; omega,by rw [bS]; omega⟩⟩,DocS.nil _ _,(HT.out.1.keep hb1 HT.out.2).keep hb3 (Nat.lt_of_lt_of_le HT.out.2 hb1.size),HT.out.2,Nat.le_trans hb1.size hb3.size⟩,bX,hb1.trans (hb3.mono hb1.size),by have h9 := hb2.size; omega⟩
 clear C1 C2 hs1 hF1 hb1 hb2 bX bB bS hb3 hsb
 go_upto_region 3 with fail
 generalize (w2.alloc (.cells #[.int .i64 (most:Nat),.slice none 0 0] 29)) = w3 at *
 generalize w2.heap.size = bm at *
 go_wp2_with fail
 go_loopw [11,12] (fun o i wq => ∃ (j:Nat) (p2:Option Addr) (n2 c2:Nat) (b:Bool),j ≤ n ∧ i = .int .i64 (j:Int) ∧ o = .bool b ∧ Hid (PL w0 wq most bm j (runM most (A.take j)) (.slice p2 n2 c2))) (fun _ i _ => n - (intOf i).toNat)
 case atStart => exact ⟨0,none,0,0,false,Nat.zero_le _,by go_num,rfl,HL0⟩
 case round =>
  obtain ⟨j,p2,n2,c2,b0,hj,rfl,rfl,HL1⟩ := hrel
  by_cases hj0:j = n
  ·subst hj0
   have HL:Hid (PL w0 wr most bm j (runM most A) (.slice p2 n2 c2)) := by
    have h1 := HL1.out
    rw [List.take_of_length_le (by rw [HN.out]; exact Nat.le_refl _)] at h1
    exact h1
   have HLd:Hid (PL w0 wr.drew most bm j (runM most A) (.slice p2 n2 c2)) := HL.out.on ((Below.refl _ _).drew)
   have HRd:Hid (Box wr.drew w.heap.size #[.int .i64 0,.slice none 0 0] 29) := (HR0.out.keep HL.out.bel (by have h8 := HS0.out; omega)).on ((Below.refl _ _).drew)
   have HCi:Hid (Calls _ _ _ _ _) := is_any (one1 bm) _ _ _ _ _ _ _ _ HLd.out.ps (fun e => by have h8 := HLd.out.lo; have h9:w0.heap.size = bm := e; omega) (by omega)
   clear HL1
   go_upto_region 14 with fail
   refine wp_region_any (by kernel_rfl) ?_
   change wpAny _ _ _ _ _ _ _ (World.drew _)
   refine tk (v := ?_) 0 rfl ?_ ?_
   rotate_left
   focus
    intro w9
    go_simp
    try with_reducible rfl
   try simp only [aP]
   refine tk (v := ?_) 2 rfl ?_ ?_
   rotate_left
   focus
    intro w9
    go_simp
    try with_reducible rfl
   try simp only [aP]
   apply later1 (fun (w3:World) => Hid (PL w0 w3 most bm j (runM most A) (.slice p2 n2 c2) ∧ Box w3 w.heap.size #[.int .i64 0,.slice none 0 0] 29))
   intro hs1_3_4_5
   apply later1 (fun (w3:World) => Hid (PL w0 w3 most bm j (runM most A) (.slice p2 n2 c2) ∧ Box w3 w.heap.size #[.int .i64 0,.slice none 0 0] 29))
   intro hs3_4_5
   apply later1 (fun (w3:World) => Hid (PL w0 w3 most bm j (runM most A) (.slice p2 n2 c2) ∧ Box w3 w.heap.size #[.int .i64 0,.slice none 0 0] 29))
   intro hs1_3_4
   apply later1 (fun (w3:World) => Hid (PL w0 w3 most bm j (runM most A) (.slice p2 n2 c2) ∧ Box w3 w.heap.size #[.int .i64 0,.slice none 0 0] 29))
   intro hs3_4
   apply later0
   intro hs1_3
   apply later0
   intro hs3
   apply later0
   intro hs1
   ·obtain ⟨m0,m1,m2,m3⟩ := HL.out.cells
    refine wpAny_ready (rs := [1,3]) (by kernel_rfl) (by simp) ?_
    refine anyN_cons 1 rfl (by rfl) (fun K hK => ?_) (anyN_cons 3 rfl (by rfl) (fun K hK => ?_) AllReady.nil)
    ·go_simp
     refine hK.out _ _ ?_
     clear hK K
     try simp only [aP]
     exact hs1
    ·go_simp
     refine hK.out _ _ ?_
     clear hK K
     try simp only [aP]
     exact hs3
   ·obtain ⟨m0,m1,m2,m3⟩ := HL.out.cells
    refine wpAny_ready (rs := [3]) (by kernel_rfl) (by simp) ?_
    refine anyN_cons 3 rfl (by rfl) (fun K hK => ?_) AllReady.nil
    go_simp
    refine hK.out _ _ ?_
    clear hK K
    try simp only [aP]
    exact hs1_3
   ·obtain ⟨m0,m1,m2,m3⟩ := HL.out.cells
    refine wpAny_ready (rs := [1,4]) (by kernel_rfl) (by simp) ?_
    refine anyN_cons 1 rfl (by rfl) (fun K hK => ?_) (anyN_cons 4 rfl (by rfl) (fun K hK => ?_) AllReady.nil)
    ·go_simp
     refine hK.out _ _ ?_
     clear hK K
     try simp only [aP]
     exact hs1_3
    ·go_simp
     refine HCi.out.mono ?_
     rintro e w3 ⟨rfl,hp3,hf3⟩
     dsimp only
     have HE:Hid (PL w0 w3 most bm j (runM most A) (.slice p2 n2 c2) ∧ Box w3 w.heap.size #[.int .i64 0,.slice none 0 0] 29) := ⟨(HLd.out.is hp3 hf3),HRd.out.frm hf3 (fun e => by have h9:w.heap.size = w0.heap.size := e; have h8 := HS0.out; omega)⟩
     clear hp3 hf3
     refine hK.out _ _ ?_
     clear hK K
     try simp only [aP]
     exact hs3_4 w3 HE
   ·obtain ⟨m0,m1,m2,m3⟩ := HL.out.cells
    refine wpAny_ready (rs := [4]) (by kernel_rfl) (by simp) ?_
    refine anyN_cons 4 rfl (by rfl) (fun K hK => ?_) AllReady.nil
    go_simp
    refine HCi.out.mono ?_
    rintro e w3 ⟨rfl,hp3,hf3⟩
    dsimp only
    have HE:Hid (PL w0 w3 most bm j (runM most A) (.slice p2 n2 c2) ∧ Box w3 w.heap.size #[.int .i64 0,.slice none 0 0] 29) := ⟨(HLd.out.is hp3 hf3),HRd.out.frm hf3 (fun e => by have h9:w.heap.size = w0.heap.size := e; have h8 := HS0.out; omega)⟩
    clear hp3 hf3
    refine hK.out _ _ ?_
    clear hK K
    try simp only [aP]
    exact hs1_3_4 w3 HE
   ·intro w3 HE
    obtain ⟨m0,m1,m2,m3⟩ := HE.out.1.cells
    obtain ⟨r0,r1,r2,r3⟩ := box2 HE.out.2
    refine wpAny_ready (rs := [1,5]) (by kernel_rfl) (by simp) ?_
    refine anyN_cons 1 rfl (by rfl) (fun K hK => ?_) (anyN_cons 5 rfl (by rfl) (fun K hK => ?_) AllReady.nil)
    ·go_simp
     refine hK.out _ _ ?_
     clear hK K
     try simp only [aP]
     exact hs1_3_4 w3 HE
    ·go_simp
     refine hK.out _ _ ?_
     clear hK K
     try simp only [aP]
     exact hs3_4_5 w3 HE
   ·intro w3 HE
    obtain ⟨m0,m1,m2,m3⟩ := HE.out.1.cells
    obtain ⟨r0,r1,r2,r3⟩ := box2 HE.out.2
    refine wpAny_ready (rs := [5]) (by kernel_rfl) (by simp) ?_
    refine anyN_cons 5 rfl (by rfl) (fun K hK => ?_) AllReady.nil
    go_simp
    refine hK.out _ _ ?_
    clear hK K
    try simp only [aP]
    exact hs1_3_4_5 w3 HE
   ·intro w3 HE
    obtain ⟨m0,m1,m2,m3⟩ := HE.out.1.cells
    obtain ⟨r0,r1,r2,r3⟩ := box2 HE.out.2
    refine wpAny_ready (rs := [1]) (by kernel_rfl) (by simp) ?_
    refine anyN_cons 1 rfl (by rfl) (fun K hK => ?_) AllReady.nil
    go_simp
    refine hK.out _ _ ?_
    clear hK K
    try simp only [aP]
    exact hs1_3_4_5 w3 HE
   ·intro w3 HE
    obtain ⟨m0,m1,m2,m3⟩ := HE.out.1.cells
    obtain ⟨r0,r1,r2,r3⟩ := box2 HE.out.2
    refine wpAny_ready (rs := [6]) (by kernel_rfl) (by simp) ?_
    refine anyN_cons 6 rfl (by rfl) (fun K hK => ?_) AllReady.nil
    go_simp
    refine hK.out _ _ ?_
    clear hK K
    try simp only [aP]
    refine wpAny_ready (rs := [7]) (by kernel_rfl) (by simp) ?_
    refine anyN_cons 7 rfl (by rfl) (fun K hK => ?_) AllReady.nil
    go_simp
    refine hK.out _ _ ?_
    clear hK K
    try simp only [aP]
    refine wpAny_done (by kernel_rfl) ?_ _
    go_wp2_with fail
    obtain ⟨z1,z2,z3⟩ := HE.out.1.ps.lay2 (q := p2) (m := n2) (d := c2) (.inr (by have h8 := HS0.out; omega)) (by have h8 := HG.out; omega) HE.out.2 (most:Nat)
    have hB9:Below w.heap.size w ((w3.setCell ⟨w.heap.size,0,none⟩ (.int .i64 (most:Nat))).setCell ⟨w.heap.size,1,none⟩ (.slice p2 n2 c2)) := (HB0.out.trans (HE.out.1.bel.mono (by have h8 := HS0.out; omega))).trans (z3.below (Nat.le_trans HB0.out.size HE.out.1.bel.size) (fun k hk => by rw [show k = w.heap.size from hk]; exact Nat.le_refl _))
    obtain ⟨f0,f1,_,_⟩ := box2 z2
    generalize (w3.setCell ⟨w.heap.size,0,none⟩ (.int .i64 (most:Nat))).setCell ⟨w.heap.size,1,none⟩ (.slice p2 n2 c2) = w9 at *
    (try simp only [Exit.inBlock,Exit.then])
    refine bodyPost_ret (v := .tuple #[ptr1 w0.heap.size,.agg #[.int .i64 (most:Nat),.slice p2 n2 c2],.bool true]) (by simp [results,Tryz.results13,go_sem,f0,f1]) rfl ?_
    exact ⟨_,by rw [HS0.out],by rw [← HN.out]; exact (by have h9 := z1.less (N' := none1) (fun _ h => h.elim); rw [HS0.out,← HN.out] at h9; exact h9),hB9⟩
  ·have hj1:j < A.length := by rw [HN.out]; omega
   have hjn:j < n := by omega
   have HL:Hid (PL w0 wr most bm j (runM most (A.take j)) (.slice p2 n2 c2)) := HL1.out
   have HLd:Hid (PL w0 wr.drew most bm j (runM most (A.take j)) (.slice p2 n2 c2)) := HL.out.on ((Below.refl _ _).drew)
   obtain ⟨b,o,q,c,e,⟨k0,k1,k2,k3,k4,k5,k6,k7⟩,hc⟩ := HLd.out.does HA.out.1 hj1 HA.out.2 (by rw [HN.out]; exact hl)
   subst e
   have HC:Hid (Calls _ _ _ _ _) := hc
   clear hc HLd HL1
   change wr.cell? _ = _ at k0 k1 k2 k3 k4 k5 k6 k7
   generalize A[j].k = x0 at *
   generalize A[j].sl = x1 at *
   generalize A[j].tx = x2 at *
   generalize A[j].v.n = x3 at *
   generalize A[j].v.gn = x4 at *
   generalize A[j].v.row.length = x5 at *
   generalize A[j].st = x6 at *
   generalize A[j].lv = x7 at *
   clear hj1
   go_upto_region 11 with fail
   go_cut [11] from 37 to 56 (fun o wx => o = .bool true ∧ Hid (∃ p3 n3 c3,PL w0 wx most bm (j + 1) (runM most (A.take (j + 1))) (.slice p3 n3 c3)))
   case first =>
    refine wp_region_any (by kernel_rfl) ?_
    change wpAny _ _ _ _ _ _ _ (World.drew _)
    refine tk (v := ?_) 0 rfl ?_ ?_
    rotate_left
    focus
     intro w9
     go_simp
     try with_reducible rfl
    try simp only [aP]
    refine tk (v := ?_) 2 rfl ?_ ?_
    rotate_left
    focus
     intro w9
     go_simp
     try with_reducible rfl
    try simp only [aP]
    refine tk (v := ?_) 3 rfl ?_ ?_
    rotate_left
    focus
     intro w9
     go_simp
     try with_reducible rfl
    try simp only [aP]
    refine tk (v := ?_) 4 rfl ?_ ?_
    rotate_left
    focus
     intro w9
     go_simp
     try with_reducible rfl
    try simp only [aP]
    apply later4 (fun (w3:World) (p3:Option Addr) (n3:Nat) (c3:Nat) => Hid (PM w0 w3 most bm (j + 1) (runM most (A.take (j + 1))) (.slice p2 n2 c2) (.slice p3 n3 c3)))
    intro hs1_5_6
    apply later0
    intro hs1_5
    apply later0
    intro hs5
    apply later0
    intro hs1
    ·obtain ⟨m0,m1,m2,m3⟩ := HL.out.cells
     refine wpAny_ready (rs := [1,5]) (by kernel_rfl) (by simp) ?_
     refine anyN_cons 1 rfl (by rfl) (fun K hK => ?_) (anyN_cons 5 rfl (by rfl) (fun K hK => ?_) AllReady.nil)
     ·go_simp
      refine hK.out _ _ ?_
      clear hK K
      try simp only [aP]
      exact hs1
     ·go_simp
      refine hK.out _ _ ?_
      clear hK K
      try simp only [aP]
      exact hs5
    ·obtain ⟨m0,m1,m2,m3⟩ := HL.out.cells
     refine wpAny_ready (rs := [5]) (by kernel_rfl) (by simp) ?_
     refine anyN_cons 5 rfl (by rfl) (fun K hK => ?_) AllReady.nil
     go_simp
     refine hK.out _ _ ?_
     clear hK K
     try simp only [aP]
     exact hs1_5
    ·obtain ⟨m0,m1,m2,m3⟩ := HL.out.cells
     refine wpAny_ready (rs := [1]) (by kernel_rfl) (by simp) ?_
     refine anyN_cons 1 rfl (by rfl) (fun K hK => ?_) AllReady.nil
     go_simp
     refine hK.out _ _ ?_
     clear hK K
     try simp only [aP]
     exact hs1_5
    ·obtain ⟨m0,m1,m2,m3⟩ := HL.out.cells
     refine wpAny_ready (rs := [6]) (by kernel_rfl) (by simp) ?_
     refine anyN_cons 6 rfl (by rfl) (fun K hK => ?_) AllReady.nil
     go_simp
     refine HC.out.mono ?_
     rintro e w3 ⟨v3,rfl,hm⟩
     dsimp only
     obtain ⟨p3,n3,c3,e3⟩:∃ p3 n3 c3,v3 = .slice p3 n3 c3 := by obtain ⟨p3,c3,e3,_⟩ := hm.ps.doc.len; exact ⟨p3,_,c3,e3⟩
     subst e3
     have HM:Hid (PM w0 w3 most bm (j + 1) (runM most (A.take (j + 1))) (.slice p2 n2 c2) (.slice p3 n3 c3)) := hm
     clear hm
     refine hK.out _ _ ?_
     clear hK K
     try simp only [aP]
     refine tk (v := ?_) 7 rfl ?_ ?_
     rotate_left
     focus
      intro w9
      go_simp
      try with_reducible rfl
     try simp only [aP]
     refine tk (v := ?_) 8 rfl ?_ ?_
     rotate_left
     focus
      intro w9
      go_simp
      try with_reducible rfl
     try simp only [aP]
     refine tk (v := ?_) 9 rfl ?_ ?_
     rotate_left
     focus
      intro w9
      go_simp
      try with_reducible rfl
     try simp only [aP]
     exact hs1_5_6 w3 p3 n3 c3 HM
    ·intro w3 p3 n3 c3 HM
     obtain ⟨m0,m1,m2,m3⟩ := HM.out.cells
     refine wpAny_ready (rs := [10]) (by kernel_rfl) (by simp) ?_
     refine anyN_cons 10 rfl (by rfl) (fun K hK => ?_) AllReady.nil
     go_simp
     refine hK.out _ _ ?_
     clear hK K
     try simp only [aP]
     refine wpAny_ready (rs := [11]) (by kernel_rfl) (by simp) ?_
     refine anyN_cons 11 rfl (by rfl) (fun K hK => ?_) AllReady.nil
     go_simp
     refine hK.out _ _ ?_
     clear hK K
     try simp only [aP]
     refine wpAny_done (by kernel_rfl) ?_ _
     go_wp2_with fail
     go_meet
     exact ⟨rfl,p3,n3,c3,HM.out.lay⟩
   case rest =>
    obtain ⟨rfl,hcx⟩ := hcut
    obtain ⟨p3,n3,c3,hl3⟩ := hcx.out
    have HL3:Hid (PL w0 wc most bm (j + 1) (runM most (A.take (j + 1))) (.slice p3 n3 c3)) := hl3
    clear hl3 hcx k0 k1 k2 k3 k4 k5 k6 k7 HC
    go_wp2_with fail
    go_roundw
    case rel => exact ⟨j + 1,p3,n3,c3,true,by omega,by go_num,rfl,HL3⟩
    case measure => simp [intOf]; omega

end Go.Proofs.YtcibcfghkidncaaGreatDoor

namespace Go.Proofs.YtcibcfghkidncaaGreatDoor

theorem slM_ext {M M':List Rs} (h:∀ x,M.getD x nilR = M'.getD x nilR):slM M = slM M' := by
 refine rise_ext (slM_rise M) (slM_rise M') (fun x => ?_)
 rw [← thrAt_mem,← thrAt_mem,thrAt_getD,thrAt_getD,h x]
theorem docL_ext {M M':List Rs} (h:∀ x,M.getD x nilR = M'.getD x nilR):docL M = docL M' := by
 unfold docL
 rw [slM_ext h]
 apply List.map_congr_left
 intro x _
 rw [h x]
def lesT (t:Int) (r:Rs):Rs := if r.tx = t ∧ t ≠ 0 then ⟨r.L,0,[]⟩ else r
theorem bak_off {J:Nat} {r:Rs} (h:OkR J r) (t:Int):atT t (bakR 0) r = lesT t r := by
 unfold atT lesT
 split
 ·have hb:belL r.W 0 = [] := by
   unfold belL
   rw [List.filter_eq_nil_iff]
   intro u hu
   have := (mayW_iff.1 h.mw).1 u hu
   simp only [okW,Bool.and_eq_true,Bool.not_eq_true',decide_eq_false_iff_not] at this
   simp
   omega
  unfold bakR bakT
  rw [hb]
  rfl
 ·rfl
theorem getD_map {f:Rs → Rs} (hf:f nilR = nilR) (M:List Rs) (x:Nat):(M.map f).getD x nilR = f (M.getD x nilR) := by
 rw [List.getD_eq_getElem?_getD,List.getD_eq_getElem?_getD,List.getElem?_map]
 cases M[x]? with
 | none => exact hf.symm
 | some r => rfl
theorem off_nil (t:Int):lesT t nilR = nilR := by
 unfold lesT
 split
 ·rfl
 ·rfl
theorem map_off {J:Nat} {M:List Rs} (h:∀ r ∈ M,OkR J r) (t:Int):mapT (bakR 0) t M = M.map (lesT t) := by
 rw [mapT_atT]
 exact List.map_congr_left (fun r hr => bak_off (h r hr) t)
theorem off_off (t:Int) (r:Rs):lesT t (lesT t r) = lesT t r := by
 unfold lesT
 by_cases h:r.tx = t ∧ t ≠ 0
 ·rw [if_pos h,if_neg (fun e => h.2 e.1.symm)]
 ·rw [if_neg h,if_neg h]
theorem off_wri {J:Nat} {r:Rs} (h:OkR J r) {t:Int} {v:Rw} {sn:Int} (he:wriE r t v sn = 0):lesT t (wriR r t v) = lesT t r := by
 unfold wriE at he
 split at he
 ·cases he
 ·split at he
  ·cases he
  ·rename_i _ hp
   split at he
   ·cases he
   ·rename_i hb
    have ht:t ≠ 0 := by
     simp only [putB,Bool.or_eq_true,decide_eq_true_eq,not_or] at hp
     omega
    unfold lesT wriR
    rw [if_pos ⟨rfl,ht⟩]
    by_cases hr:r.tx = t
    ·rw [if_pos ⟨hr,ht⟩]
    ·rw [if_neg (fun e => hr e.1)]
     have h0:r.tx = 0 := by
      by_cases h0:r.tx = 0
      ·exact h0
      ·exact absurd ⟨h0,hr⟩ hb
     obtain ⟨L,tx,W⟩ := r
     have hW:W = [] := h.tx0.1 h0
     have h0':tx = 0 := h0
     subst h0' hW
     rfl
theorem off_new (t:Int) (v:Rw) (hp:putB t [] v = false):lesT t (newR t v) = nilR := by
 have ht:t ≠ 0 := by
  simp only [putB,Bool.or_eq_false_iff,decide_eq_false_iff_not] at hp
  omega
 unfold lesT newR
 rw [if_pos ⟨rfl,ht⟩]
 rfl
def SamO (t:Int) (M M':List Rs):Prop := ∀ x,lesT t (M.getD x nilR) = lesT t (M'.getD x nilR)
theorem SamO.doc {J J':Nat} {t:Int} {M M':List Rs} (h:SamO t M M') (hM:∀ r ∈ M,OkR J r) (hM':∀ r ∈ M',OkR J' r):docL (mapT (bakR 0) t M) = docL (mapT (bakR 0) t M') := by
 rw [map_off hM,map_off hM']
 refine docL_ext (fun x => ?_)
 rw [getD_map (off_nil t),getD_map (off_nil t),h x]
theorem SamO.wrt {J:Nat} {t:Int} {M M':List Rs} (h:SamO t M M') (hM:∀ r ∈ M,OkR J r) (sl:Int) (v:Rw) (sn:Int):SamO t (wrtM M sl t v sn) M' := by
 intro x
 rw [← h x]
 unfold wrtM
 split
 ·rename_i he
  by_cases hx:x = sl.toNat
  ·subst hx
   have hs:0 ≤ sl := by
    by_cases hs:0 ≤ sl
    ·exact hs
    ·exfalso
     rw [getR_out (.inl (by omega))] at he
     simp [wriE,thr,nilR] at he
   have hl:sl.toNat < M.length := by
    by_cases hl:sl.toNat < M.length
    ·exact hl
    ·exfalso
     rw [getR_out (.inr (by omega))] at he
     simp [wriE,thr,nilR] at he
   have hg:getR M sl = M.getD sl.toNat nilR := by
    unfold getR
    rw [if_neg (by omega)]
   rw [List.getD_eq_getElem?_getD,List.getElem?_set_self hl]
   show lesT t (wriR (getR M sl) t v) = _
   rw [off_wri (OkR.get hM sl) he,hg]
  ·rw [List.getD_eq_getElem?_getD,List.getElem?_set_ne (fun e => hx e.symm),← List.getD_eq_getElem?_getD]
 ·rfl
theorem SamO.add {J:Nat} {t:Int} {M M':List Rs} (h:SamO t M M') (hM:∀ r ∈ M,OkR J r) (v:Rw) (hp:putB t [] v = false):SamO t (addM M (freeS M) (newR t v)) M' := by
 intro x
 rw [← h x]
 have hs:freeS M ≤ M.length := List.findIdx_le_length
 rw [addM_getD hs]
 by_cases e:x = freeS M
 ·rw [if_pos e,off_new t v hp]
  have h1 := free_no M
  rw [← e,thrAt_getD] at h1
  have h2:M.getD x nilR = nilR := by
   rw [List.getD_eq_getElem?_getD] at h1 ⊢
   cases hx:M[x]? with
   | none => rfl
   | some r =>
    rw [hx] at h1
    exact thr_nil (hM r (List.mem_of_getElem? hx)) h1
  rw [h2,off_nil]
 ·rw [if_neg e]

end Go.Proofs.YtcibcfghkidncaaGreatDoor
